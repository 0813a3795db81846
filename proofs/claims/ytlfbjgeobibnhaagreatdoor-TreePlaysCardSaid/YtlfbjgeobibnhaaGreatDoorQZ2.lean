/-
  PLAIN: an object's fields; the block of a call's own that holds one.
-/
import Derived.Test.YtlfbjgeobibnhaaGreatDoorQZ0
import Derived.WalkKit
import Derived.Below
import Derived.Lib.Hide
import Derived.IntWalk
import Derived.Laws.World
import Derived.Test.YtlfbjgeobibnhaaGreatDoorQZ1
import Derived.Maps.OwnSet
import Derived.Carry
import Derived.Laws.BitsAllLaws
import Derived.Laws.ShiftsVar
import Derived.Laws.AppendOwn
import Derived.BigQuiet
import Derived.LaidEqlPtr
import Derived.Laws.Bits128
namespace Go.Proofs.YtlfbjgeobibnhaaGreatDoor
open Go.RowKit
set_option maxRecDepth 100000
set_option linter.unusedVariables false

/-- An object's fields, in the order of its type. -/
structure Ob where
  handle : ByteArray
  kind : Nat
  parent : ByteArray
  typ : Nat
  ref : ByteArray
  lo : Int
  hi : Int
  digits : Nat
  on : Bool
  has : Bool
  value : Int
  low : Int
  high : Int
  assoc : Nat
abbrev obCells (o : Ob) : Array Value := #[.string o.handle, .int .u8 o.kind, .string o.parent, .int .u8 o.typ, .string o.ref, .int .i64 o.lo, .int .i64 o.hi, .int .u8 o.digits, .bool o.on, .bool o.has, .int .i64 o.value, .int .i64 o.low, .int .i64 o.high, .int .u8 o.assoc]
abbrev ob (o : Ob) : Value := .agg #[.string o.handle, .int .u8 o.kind, .string o.parent, .int .u8 o.typ, .string o.ref, .int .i64 o.lo, .int .i64 o.hi, .int .u8 o.digits, .bool o.on, .bool o.has, .int .i64 o.value, .int .i64 o.low, .int .i64 o.high, .int .u8 o.assoc]
theorem ret_ob {fn : Func} {R : Ending → World → Prop} {act : Act} {W : World} {B : Nat} {o : Ob} {p : Tmp} (hr : fn.results = #[.cell p 33]) (hp : act.tmps.getD p undef = .pointer (some ⟨B, 0, none⟩)) (hd : act.defers = [])
    (h : AtC W B (obCells o)) (hR : R (.returned (ob o)) W) : bodyPost Tryz.prog fn R .ret act W := by
  refine bodyPost_ret (v := ob o) ?_ hd hR
  have h0 := h.c
  simp at hp
  simp only [results, hr]
  simp [Sem.run_bind, Result.andThen, hp, go_sem, h0]
end Go.Proofs.YtlfbjgeobibnhaaGreatDoor
/-
  WALKS: the document's Refers, Desc, State, Bare, Only.
-/
namespace Go.Proofs.YtlfbjgeobibnhaaGreatDoor
open Go.RowKit
set_option maxRecDepth 100000
set_option linter.unusedVariables false

def descOf (o f : Ob) : Ob := { f with handle := o.handle, kind := o.kind, on := o.on, has := o.has, value := o.value, low := o.low, high := o.high, assoc := o.assoc }
def stateOf (o f : Ob) : Ob := { o with on := f.on, has := f.has, value := f.value, low := f.low, high := f.high, assoc := f.assoc }
def zeroOb : Ob := ⟨⟨#[]⟩, 0, ⟨#[]⟩, 0, ⟨#[]⟩, 0, 0, 0, false, false, 0, 0, 0, 0⟩
end Go.Proofs.YtlfbjgeobibnhaaGreatDoor
/-
  PLAIN: a tree's slots: which object is where; the rows of handles with their slots, all of them, and those under one parent; what adding, changing and taking away do to them.
-/
namespace Go.Proofs.YtlfbjgeobibnhaaGreatDoor.TX
open Go.RowKit HL
open IX
set_option maxRecDepth 100000
set_option linter.unusedVariables false
set_option linter.unusedSimpArgs false

abbrev hb (o : Ob) : Bs := o.handle.data.toList
abbrev pb (o : Ob) : Bs := o.parent.data.toList
/-- Slots, each free or with an object. -/
abbrev Sl := List (Option Ob)
/-- The object stands in the slot. -/
def In (s : Sl) (k : Nat) (o : Ob) : Prop := s[k]? = some (some o)
theorem In.lt {s : Sl} {k : Nat} {o : Ob} (h : In s k o) : k < s.length := (List.getElem?_eq_some_iff.1 h).1
theorem In.uniq {s : Sl} {k : Nat} {o o' : Ob} (h : In s k o) (h' : In s k o') : o = o' := by
  unfold In at *; rw [h] at h'; cases h'; rfl
structure Wf (s : Sl) : Prop where
  nd : ∀ i j a b, In s i a → In s j b → hb a = hb b → i = j
  may : ∀ i a, In s i a → mayS (hb a) = true
  pl : ∀ i a, In s i a → (pb a).length ≤ 100
  ln : s.length ≤ 64
/-- The slot of a handle. -/
def fits (h : Bs) : Option Ob → Bool
  | some o => decide (hb o = h)
  | none => false
def slotO (s : Sl) (h : Bs) : Option Nat := s.findIdx? (fits h)
theorem fits_iff {h : Bs} {x : Option Ob} : fits h x = true ↔ ∃ o, x = some o ∧ hb o = h := by
  cases x <;> simp [fits]
theorem slotO_some {s : Sl} {h : Bs} {k : Nat} (e : slotO s h = some k) : ∃ o, In s k o ∧ hb o = h := by
  unfold slotO at e
  rw [List.findIdx?_eq_some_iff_getElem] at e
  obtain ⟨hk, hp, _⟩ := e
  obtain ⟨o, e1, e2⟩ := fits_iff.1 hp
  exact ⟨o, by unfold In; rw [List.getElem?_eq_getElem hk, e1], e2⟩
theorem slotO_none {s : Sl} {h : Bs} : slotO s h = none ↔ ∀ k o, In s k o → hb o ≠ h := by
  unfold slotO
  rw [List.findIdx?_eq_none_iff]
  constructor
  · intro q k o hi e
    have := q (some o) (List.mem_of_getElem? hi)
    rw [fits_iff.2 ⟨o, rfl, e⟩] at this; cases this
  · intro q x hx
    cases x with
    | none => rfl
    | some o =>
      obtain ⟨k, hk, e⟩ := List.getElem_of_mem hx
      have := q k o (by unfold In; rw [List.getElem?_eq_getElem hk, e])
      simp [fits, this]
theorem slotO_in {s : Sl} (w : Wf s) {k : Nat} {o : Ob} (h : In s k o) : slotO s (hb o) = some k := by
  cases e : slotO s (hb o) with
  | none => exact absurd rfl (slotO_none.1 e k o h)
  | some j =>
    obtain ⟨o', h1, h2⟩ := slotO_some e
    rw [w.nd _ _ _ _ h1 h h2]
theorem slotO_iff {s : Sl} (w : Wf s) {h : Bs} {k : Nat} : slotO s h = some k ↔ ∃ o, In s k o ∧ hb o = h :=
  ⟨slotO_some, fun ⟨_, h1, h2⟩ => h2 ▸ slotO_in w h1⟩
def there (s : Sl) (h : Bs) : Bool := (slotO s h).isSome
def slotN (s : Sl) (h : Bs) : Nat := (slotO s h).getD 0
def obAt (s : Sl) (h : Bs) : Ob := ((slotO s h).bind fun k => s.getD k none).getD zeroOb
theorem there_f {s : Sl} {h : Bs} (e : there s h = false) : slotO s h = none := by simpa [there] using e
theorem there_t {s : Sl} {h : Bs} (e : there s h = true) : ∃ o, In s (slotN s h) o ∧ hb o = h ∧ obAt s h = o ∧ slotO s h = some (slotN s h) := by
  obtain ⟨k, hk⟩ := Option.isSome_iff_exists.1 e
  obtain ⟨o, h1, h2⟩ := slotO_some hk
  refine ⟨o, by simpa [slotN, hk] using h1, h2, ?_, by simp [slotN, hk]⟩
  simp [obAt, hk, show s[k]? = some (some o) from h1]
theorem there_iff {s : Sl} {h : Bs} : there s h = true ↔ ∃ k o, In s k o ∧ hb o = h := by
  constructor
  · intro e
    obtain ⟨o, h1, h2, _⟩ := there_t e
    exact ⟨_, o, h1, h2⟩
  · rintro ⟨k, o, h1, h2⟩
    cases e : there s h with
    | true => rfl
    | false => exact absurd h2 (slotO_none.1 (there_f e) k o h1)
theorem slotN_f {s : Sl} {h : Bs} (e : there s h = false) : slotN s h = 0 ∧ obAt s h = zeroOb := by simp [slotN, obAt, there_f e]
theorem slotN_in {s : Sl} (w : Wf s) {k : Nat} {o : Ob} (h : In s k o) : there s (hb o) = true ∧ slotN s (hb o) = k ∧ obAt s (hb o) = o := by
  have e := slotO_in w h
  simp [there, slotN, obAt, e, show s[k]? = some (some o) from h]
/-! ## The rows -/
def handles (s : Sl) : List Bs := s.filterMap (fun x => x.map hb)
theorem mem_handles {s : Sl} {h : Bs} : h ∈ handles s ↔ ∃ k o, In s k o ∧ hb o = h := by
  unfold handles
  rw [List.mem_filterMap]
  constructor
  · rintro ⟨x, hx, e⟩
    cases x with
    | none => simp at e
    | some o =>
      obtain ⟨k, hk, e2⟩ := List.getElem_of_mem hx
      exact ⟨k, o, by unfold In; rw [List.getElem?_eq_getElem hk, e2], by simpa using e⟩
  · rintro ⟨k, o, h1, h2⟩
    exact ⟨some o, List.mem_of_getElem? h1, by simp [h2]⟩
def names (s : Sl) : List Bs := sortU (handles s)
theorem names_asc (s : Sl) : Asc (names s) := sortU_asc _
theorem mem_names {s : Sl} {h : Bs} : h ∈ names s ↔ there s h = true := by
  unfold names; rw [sortU_mem, mem_handles, there_iff]
theorem names_len (s : Sl) : (names s).length ≤ s.length := Nat.le_trans (sortU_le _) (List.length_filterMap_le _ _)
def rowsN (s : Sl) : List Rw := (names s).map fun h => (h, (slotN s h : Int))
def under (s : Sl) (p : Bs) (r : Rw) : Bool := decide (pb (obAt s r.1) = p)
/-- The rows of all, or of those under one parent. -/
def rowsOf (s : Sl) : Option Bs → List Rw
  | none => rowsN s
  | some p => (rowsN s).filter (under s p)
theorem rowsN_keys (s : Sl) : keys (rowsN s) = names s := by
  unfold rowsN keys
  rw [List.map_map]
  exact List.map_id' (names s)
theorem rowsN_up (s : Sl) : Up (rowsN s) := by unfold Up; rw [rowsN_keys]; exact names_asc s
theorem rowsOf_up (s : Sl) (o : Option Bs) : Up (rowsOf s o) := by
  cases o with
  | none => exact rowsN_up s
  | some p =>
    have := rowsN_up s
    unfold Up keys rowsOf at *
    exact List.Pairwise.sublist (List.Sublist.map _ List.filter_sublist) this
theorem rowsOf_len (s : Sl) (o : Option Bs) : (rowsOf s o).length ≤ s.length := by
  have h1 : (rowsN s).length ≤ s.length := by unfold rowsN; rw [List.length_map]; exact names_len s
  cases o with
  | none => exact h1
  | some p => exact Nat.le_trans (List.length_filter_le _ _) h1
/-- What stands in the rows. -/
def RowIn (s : Sl) (o : Option Bs) (r : Rw) : Prop := ∃ (k : Nat) (a : Ob), r.2 = (k : Int) ∧ In s k a ∧ hb a = r.1 ∧ ∀ p, o = some p → pb a = p
theorem mem_rowsN {s : Sl} (w : Wf s) {r : Rw} : r ∈ rowsN s ↔ RowIn s none r := by
  unfold rowsN
  rw [List.mem_map]
  constructor
  · rintro ⟨h, hm, rfl⟩
    obtain ⟨o, h1, h2, _⟩ := there_t (mem_names.1 hm)
    exact ⟨_, o, rfl, h1, h2, fun p e => by cases e⟩
  · rintro ⟨k, a, e1, h1, h2, _⟩
    obtain ⟨t1, t2, _⟩ := slotN_in w h1
    refine ⟨r.1, mem_names.2 (h2 ▸ t1), ?_⟩
    rw [← h2, t2, h2, ← e1]
theorem mem_rowsOf {s : Sl} (w : Wf s) {o : Option Bs} {r : Rw} : r ∈ rowsOf s o ↔ RowIn s o r := by
  cases o with
  | none => exact mem_rowsN w
  | some p =>
    unfold rowsOf
    rw [List.mem_filter, mem_rowsN w]
    constructor
    · rintro ⟨⟨k, a, e1, h1, h2, _⟩, hu⟩
      refine ⟨k, a, e1, h1, h2, fun q e => ?_⟩
      cases e
      have := (slotN_in w h1).2.2
      rw [h2] at this
      simpa [under, this] using hu
    · rintro ⟨k, a, e1, h1, h2, h3⟩
      refine ⟨⟨k, a, e1, h1, h2, fun q e => by cases e⟩, ?_⟩
      have := (slotN_in w h1).2.2
      rw [h2] at this
      simpa [under, this] using h3 p rfl
theorem up_ext {a b : List Rw} (ha : Up a) (hb : Up b) (h : ∀ r, r ∈ a ↔ r ∈ b) : a = b := by
  have hk : keys a = keys b := asc_uniq ha hb fun x => by
    unfold keys
    rw [List.mem_map, List.mem_map]
    exact ⟨fun ⟨r, h1, h2⟩ => ⟨r, (h r).1 h1, h2⟩, fun ⟨r, h1, h2⟩ => ⟨r, (h r).2 h1, h2⟩⟩
  have hl : a.length = b.length := by have := congrArg List.length hk; simpa [keys] using this
  apply List.ext_getElem hl
  intro i h1 h2
  have e1 : a[i].1 = b[i].1 := by
    have := congrArg (fun l => l[i]?) hk
    simpa [keys, h1, h2] using this
  have m := (h a[i]).1 (List.getElem_mem h1)
  obtain ⟨j, hj, ej⟩ := List.getElem_of_mem m
  have : j = i := up_inj hb hj h2 (by rw [ej, e1])
  subst this
  exact ej.symm
theorem has_rows {s : Sl} (w : Wf s) {h : Bs} : hasB (rowsOf s none) h = there s h := by
  rw [Bool.eq_iff_iff, hasB_iff]
  show h ∈ keys (rowsN s) ↔ _
  rw [rowsN_keys, mem_names]
theorem num_rows {s : Sl} (w : Wf s) {h : Bs} : numOf (rowsOf s none) h = (slotN s h : Int) := by
  cases e : there s h with
  | false => rw [numOf_f (by rw [has_rows w, e]), (slotN_f e).1]; rfl
  | true =>
    obtain ⟨o, h1, h2, _⟩ := there_t e
    have m : (h, (slotN s h : Int)) ∈ rowsOf s none := (mem_rowsOf w).2 ⟨_, o, rfl, h1, h2, fun p e => by cases e⟩
    obtain ⟨i, hi, ei⟩ := List.getElem_of_mem m
    have := numOf_at (rowsOf_up s none) hi
    rw [ei] at this
    exact this
/-! ## A slot filled, a slot freed -/
theorem in_set {s : Sl} {k : Nat} (hk : k < s.length) {x : Option Ob} {j : Nat} {a : Ob} : In (s.set k x) j a ↔ (j = k ∧ x = some a) ∨ (j ≠ k ∧ In s j a) := by
  unfold In
  rw [List.getElem?_set]
  by_cases e : k = j
  · subst e; simp [hk]
  · have e2 : j ≠ k := fun h => e h.symm
    simp [e, e2]
theorem Wf.add {s : Sl} (w : Wf s) {k : Nat} (hk : k < s.length) {o : Ob} (hf : ∀ j a, In s j a → hb a = hb o → j = k) (hm : mayS (hb o) = true) (hp : (pb o).length ≤ 100) : Wf (s.set k (some o)) := by
  refine ⟨?_, ?_, ?_, by rw [List.length_set]; exact w.ln⟩
  · intro i j a b h1 h2 e
    rcases (in_set hk).1 h1 with ⟨q1, e1⟩ | ⟨n1, m1⟩ <;> rcases (in_set hk).1 h2 with ⟨q2, e2⟩ | ⟨n2, m2⟩
    · rw [q1, q2]
    · cases e1; exact absurd (hf j b m2 e.symm) n2
    · cases e2; exact absurd (hf i a m1 e) n1
    · exact w.nd _ _ _ _ m1 m2 e
  · intro i a h
    rcases (in_set hk).1 h with ⟨rfl, e1⟩ | ⟨_, h⟩
    · cases e1; exact hm
    · exact w.may i a h
  · intro i a h
    rcases (in_set hk).1 h with ⟨rfl, e1⟩ | ⟨_, h⟩
    · cases e1; exact hp
    · exact w.pl i a h
theorem Wf.del {s : Sl} (w : Wf s) {k : Nat} (hk : k < s.length) : Wf (s.set k none) := by
  have key : ∀ {i a}, In (s.set k none) i a → In s i a := fun {i a} h => by
    rcases (in_set hk).1 h with ⟨_, e⟩ | ⟨_, h⟩
    · cases e
    · exact h
  exact ⟨fun i j a b h1 h2 => w.nd i j a b (key h1) (key h2), fun i a h => w.may i a (key h), fun i a h => w.pl i a (key h), by rw [List.length_set]; exact w.ln⟩
/-- A free slot filled: the rows of all, and of those under the object's parent, get one more. -/
theorem rows_add {s : Sl} (w : Wf s) {k : Nat} (hk : s[k]? = some none) {o : Ob} (hn : there s (hb o) = false) (hm : mayS (hb o) = true) (hp : (pb o).length ≤ 100) (q : Option Bs) :
    rowsOf (s.set k (some o)) q = if q = none ∨ q = some (pb o) then ins (rowsOf s q) (hb o) k else rowsOf s q := by
  have hkl : k < s.length := (List.getElem?_eq_some_iff.1 hk).1
  have hfree : ∀ a, ¬ In s k a := fun a h => by unfold In at h; rw [hk] at h; cases h
  have w2 : Wf (s.set k (some o)) := w.add hkl (fun j a h e => absurd e (slotO_none.1 (there_f hn) j a h)) hm hp
  have hno : ∀ q, hasB (rowsOf s q) (hb o) = false := fun q => by
    rw [hasB_f]
    intro h
    obtain ⟨r, hr, e⟩ := List.mem_map.1 h
    obtain ⟨j, a, _, h1, h2, _⟩ := (mem_rowsOf w).1 hr
    exact slotO_none.1 (there_f hn) j a h1 (h2.trans e)
  have hmem : ∀ r, RowIn (s.set k (some o)) q r ↔ (r = (hb o, (k : Int)) ∧ (q = none ∨ q = some (pb o))) ∨ RowIn s q r := fun r => by
    constructor
    · rintro ⟨j, a, e1, h1, h2, h3⟩
      rcases (in_set hkl).1 h1 with ⟨rfl, e⟩ | ⟨_, h1⟩
      · cases e
        refine .inl ⟨Prod.ext h2.symm e1, ?_⟩
        cases q with
        | none => exact .inl rfl
        | some p => exact .inr (by rw [h3 p rfl])
      · exact .inr ⟨j, a, e1, h1, h2, h3⟩
    · rintro (⟨rfl, hq⟩ | ⟨j, a, e1, h1, h2, h3⟩)
      · refine ⟨k, o, rfl, (in_set hkl).2 (.inl ⟨rfl, rfl⟩), rfl, fun p e => ?_⟩
        rcases hq with hq | hq
        · rw [hq] at e; cases e
        · rw [hq] at e; cases e; rfl
      · exact ⟨j, a, e1, (in_set hkl).2 (.inr ⟨fun e => hfree a (e ▸ h1), h1⟩), h2, h3⟩
  split
  · rename_i hq
    refine up_ext (rowsOf_up _ _) (up_ins (rowsOf_up _ _) _ (hno q)) fun r => ?_
    rw [mem_rowsOf w2, mem_ins, mem_rowsOf w, hmem]
    constructor
    · rintro (⟨e, _⟩ | h)
      · exact .inl e
      · exact .inr h
    · rintro (e | h)
      · exact .inl ⟨e, hq⟩
      · exact .inr h
  · rename_i hq
    refine up_ext (rowsOf_up _ _) (rowsOf_up _ _) fun r => ?_
    rw [mem_rowsOf w2, mem_rowsOf w, hmem]
    exact ⟨fun h => h.elim (fun h => absurd h.2 hq) id, .inr⟩
/-- A slot freed: they get one less. -/
theorem rows_del {s : Sl} (w : Wf s) {k : Nat} {o : Ob} (hk : In s k o) (q : Option Bs) :
    rowsOf (s.set k none) q = if q = none ∨ q = some (pb o) then del (rowsOf s q) (hb o) else rowsOf s q := by
  have hkl := hk.lt
  have w2 := w.del hkl
  have hmem : ∀ r, RowIn (s.set k none) q r ↔ RowIn s q r ∧ r.1 ≠ hb o := fun r => by
    constructor
    · rintro ⟨j, a, e1, h1, h2, h3⟩
      rcases (in_set hkl).1 h1 with ⟨_, e⟩ | ⟨hne, h1⟩
      · cases e
      · exact ⟨⟨j, a, e1, h1, h2, h3⟩, fun e => hne (w.nd _ _ _ _ h1 hk (h2.trans e))⟩
    · rintro ⟨⟨j, a, e1, h1, h2, h3⟩, hne⟩
      exact ⟨j, a, e1, (in_set hkl).2 (.inr ⟨fun e => by subst e; exact hne (by rw [← h2, h1.uniq hk]), h1⟩), h2, h3⟩
  split
  · rename_i hq
    have hh : hasB (rowsOf s q) (hb o) = true := by
      rw [hasB_iff]
      refine List.mem_map.2 ⟨(hb o, (k : Int)), (mem_rowsOf w).2 ⟨k, o, rfl, hk, rfl, fun p e => ?_⟩, rfl⟩
      rcases hq with hq | hq
      · rw [hq] at e; cases e
      · rw [hq] at e; cases e; rfl
    refine up_ext (rowsOf_up _ _) (up_del (rowsOf_up _ _) _) fun r => ?_
    rw [mem_rowsOf w2, mem_del (rowsOf_up _ _) hh, mem_rowsOf w, hmem]
  · rename_i hq
    refine up_ext (rowsOf_up _ _) (rowsOf_up _ _) fun r => ?_
    rw [mem_rowsOf w2, mem_rowsOf w, hmem]
    refine ⟨fun h => h.1, fun h => ⟨h, fun e => hq ?_⟩⟩
    obtain ⟨j, a, e1, h1, h2, h3⟩ := h
    have := w.nd _ _ _ _ h1 hk (h2.trans e)
    subst this
    obtain rfl := h1.uniq hk
    cases q with
    | none => exact .inl rfl
    | some p => exact .inr (by rw [h3 p rfl])
end Go.Proofs.YtlfbjgeobibnhaaGreatDoor.TX
/-
  PLAIN: a map of texts to indices, as it lies in memory: looked into, written, an entry taken away.
-/
namespace Go.Proofs.YtlfbjgeobibnhaaGreatDoor.TX
open Go.RowKit HL
open IX (ptr)
open Go.Maps (Keyed IsMap)
set_option maxRecDepth 100000
set_option linter.unusedVariables false
set_option linter.unusedSimpArgs false

/-- A function with another value at one text. -/
def upd {α : Type} (f : Bs → α) (k : Bs) (x : α) : Bs → α := fun h => if h = k then x else f h
theorem upd_same {α : Type} (f : Bs → α) (k : Bs) (x : α) : upd f k x k = x := by simp [upd]
theorem upd_other {α : Type} (f : Bs → α) {k h : Bs} (x : α) (e : h ≠ k) : upd f k x h = f h := by simp [upd, e]
theorem upd_self {α : Type} {f : Bs → α} {k : Bs} {x : α} (e : f k = x) : upd f k x = f := by
  funext h
  by_cases q : h = k
  · subst q; simp [upd, e]
  · simp [upd, q]
/-- How an element reads: as its block's number. -/
def ixR (v : Value) : Option (DataW Unit × List MemPlace) :=
  match v with
  | .pointer none => some (.nil, [])
  | .pointer (some a) => if a.off = 0 ∧ a.spot = none then some (.lit (.int .i64 a.block), []) else none
  | _ => none
def encO (x : Option Nat) : DataW Unit := match x with | none => .nil | some B => .lit (.int .i64 B)
def valO (x : Option Nat) : Value := match x with | none => .pointer none | some B => ptr B
theorem ixR_ptr (B : Nat) : ixR (ptr B) = some (.lit (.int .i64 B), []) := by simp [ixR]
theorem ixR_inv {v : Value} {x : Option Nat} {ps : List MemPlace} (h : ixR v = some (encO x, ps)) : v = valO x := by
  unfold ixR at h
  split at h
  · cases x with
    | none => rfl
    | some B => simp [encO] at h
  · rename_i a
    split at h
    · rename_i q
      cases x with
      | none => simp [encO] at h
      | some B =>
        simp [encO] at h
        obtain ⟨b, o, s⟩ := a
        simp at q h
        obtain ⟨rfl, rfl⟩ := q
        have : b = B := by omega
        subst this
        rfl
    · cases h
  · cases h
/-- Block M is a map of at most n entries, with f's indices. -/
structure MapAt (w : World) (M n : Nat) (f : Bs → Option Nat) : Prop where
  ex : ∃ D : DataW Unit, w.ownsMap Tryz.prog 9 ixR M n D ∧ ∀ h : Bs, D.atKey (.string h) .nil = encO (f h) ∧ Maps.has D (.string h) = (f h).isSome
theorem MapAt.lt {w : World} {M n : Nat} {f : Bs → Option Nat} (h : MapAt w M n f) : M < w.heap.size := by
  obtain ⟨D, ho, _⟩ := h.ex
  exact ho.lt
theorem MapAt.more {w : World} {M n n' : Nat} {f : Bs → Option Nat} (h : MapAt w M n f) (k : n ≤ n') : MapAt w M n' f := by
  obtain ⟨D, ho, hf⟩ := h.ex
  exact ⟨D, ho.mono k, hf⟩
theorem MapAt.kept {w w' : World} {P : Nat → Prop} {M n : Nat} {f : Bs → Option Nat} (h : MapAt w M n f) (k : IX.Kept w w' P) (hp : P M) : MapAt w' M n f := by
  have hl := h.lt
  obtain ⟨D, ⟨es, clock, hb, r⟩, hf⟩ := h.ex
  exact ⟨D, ⟨es, clock, (k.block M hl hp).trans hb, r⟩, hf⟩
theorem MapAt.made (w : World) : MapAt (w.alloc (.map #[] 0)) w.heap.size 0 (fun _ => none) :=
  ⟨⟨_, World.ownsMap_made w _ _ _, fun h => ⟨rfl, rfl⟩⟩⟩
theorem keyedS : Keyed Tryz.prog 9 := Maps.string_keyed Tryz.underlying9
theorem keyS {k : Bs} (hk : k.length ≤ maxLen) : keyOf Tryz.prog 9 (str k) = some (.string k) := by
  have := WideMaps.keyOf_string_mk (P := Tryz.prog) Tryz.underlying9 (s := ⟨k.toArray⟩) hk
  simpa using this
theorem zeroIx (W : World) : (zeroValue 50).run Tryz.prog W = .ok (.pointer none) W := by kernel_rfl
theorem MapAt.look {w : World} {M n : Nat} {f : Bs → Option Nat} (h : MapAt w M n f) {k : Bs} (hk : k.length ≤ maxLen) :
    (Instr.lookup 52 (.map (some M)) (str k) false).run Tryz.prog w = .ok (valO (f k)) w := by
  obtain ⟨D, ho, hf⟩ := h.ex
  obtain ⟨v, ps, hrun, hv⟩ := ho.lookup keyedS Tryz.underlying52 (zeroIx w) (zd := .nil) (zp := []) rfl (keyS hk)
  rw [(hf k).1] at hv
  rw [hrun, ixR_inv hv]
theorem MapAt.look_ok {w : World} {M n : Nat} {f : Bs → Option Nat} (h : MapAt w M n f) {k : Bs} (hk : k.length ≤ maxLen) :
    (Instr.lookup 52 (.map (some M)) (str k) true).run Tryz.prog w = .ok (.tuple #[valO (f k), .bool (f k).isSome]) w := by
  obtain ⟨D, ho, hf⟩ := h.ex
  obtain ⟨v, ps, hrun, hv⟩ := ho.look_ok keyedS Tryz.underlying52 (zeroIx w) (zd := .nil) (zp := []) rfl (keyS hk)
  rw [(hf k).1] at hv
  rw [hrun, ixR_inv hv, (hf k).2]
theorem kept_turned {w w' : World} {M : Nat} (h : w.grownBy w' (some M)) : IX.Kept w w' (· ≠ M) :=
  ⟨h.os, h.tape, h.output, h.size, fun k hk p => h.block k hk (fun e => p (by cases e; rfl))⟩
theorem lit_ne {h k : Bs} (e : h ≠ k) : (Lit.string h) ≠ .string k := fun q => e (by cases q; rfl)
theorem MapAt.put {w : World} {M n : Nat} {f : Bs → Option Nat} (h : MapAt w M n f) (hn : n ≤ 1000000) {k : Bs} (hk : k.length ≤ maxLen) (B : Nat) :
    ∃ w', (Instr.mapUpdate 52 (.map (some M)) (str k) (ptr B)).run Tryz.prog w = .ok () w' ∧ MapAt w' M (n + 1) (upd f k (some B)) ∧ IX.Kept w w' (· ≠ M) := by
  obtain ⟨D, ho, hf⟩ := h.ex
  obtain ⟨w', hrun, ho', hg⟩ := ho.update keyedS Tryz.underlying52 (by unfold maxLen; omega) (keyS hk) (ixR_ptr B)
  refine ⟨w', hrun, ⟨_, ho', fun x => ?_⟩, kept_turned hg⟩
  by_cases e : x = k
  · subst e
    rw [upd_same]
    exact ⟨Maps.atKey_put_same ho.isMap (show WideAt.IsKeyLit (.string x) from trivial) _ _, Maps.has_put_same ho.isMap (show WideAt.IsKeyLit (.string x) from trivial) _⟩
  · rw [upd_other _ _ e, Maps.atKey_put_other (lit_ne e), Maps.has_put_other (lit_ne e)]
    exact hf x
theorem MapAt.drop {w : World} {M n : Nat} {f : Bs → Option Nat} (h : MapAt w M n f) {k : Bs} (hk : k.length ≤ maxLen) (ty : TypeId) :
    ∃ w', (Builtin.delete_ #[52, 9] ty #[.map (some M), str k]).run Tryz.prog w = .ok (.tuple #[]) w' ∧ MapAt w' M n (upd f k none) ∧ IX.Kept w w' (· ≠ M) := by
  obtain ⟨D, ho, hf⟩ := h.ex
  obtain ⟨w', hrun, ho', hg⟩ := ho.drop keyedS Tryz.underlying52 (keyS hk) ty
  refine ⟨w', hrun, ⟨_, ho', fun x => ?_⟩, kept_turned hg.grown⟩
  by_cases e : x = k
  · subst e
    rw [upd_same]
    exact ⟨Maps.atKey_del_same _, Maps.has_del_same⟩
  · rw [upd_other _ _ e, Maps.atKey_del_other (lit_ne e), Maps.has_del_other (lit_ne e)]
    exact hf x
end Go.Proofs.YtlfbjgeobibnhaaGreatDoor.TX
/-
  PLAIN: slots as a row of bits, and the number whose bits they are; how many bits of a number are set, as math/bits reckons it; the least free slot.
-/
namespace Go.Proofs.YtlfbjgeobibnhaaGreatDoor
set_option maxRecDepth 100000
set_option linter.unusedVariables false
set_option linter.unusedSimpArgs false

/-- The number whose bits are these. -/
def bitsN : List Bool → Nat
  | [] => 0
  | b :: l => b.toNat + 2 * bitsN l
/-- How many of the first k bits are set. -/
def ones : Nat → Nat → Nat
  | 0, _ => 0
  | k + 1, t => t % 2 + ones k (t / 2)
def many (l : List Bool) : Nat := l.countP id
theorem bitsN_test (l : List Bool) (k : Nat) : (bitsN l).testBit k = l.getD k false := by
  induction l generalizing k with
  | nil => simp [bitsN]
  | cons b l ih =>
    have h2 : (b.toNat + 2 * bitsN l) / 2 = bitsN l := by cases b <;> simp <;> omega
    cases k with
    | zero => cases b <;> simp [bitsN, Nat.testBit_zero] <;> omega
    | succ k => rw [bitsN, Nat.testBit_succ, h2, ih]; simp
theorem bitsN_lt (l : List Bool) : bitsN l < 2 ^ l.length := by
  induction l with
  | nil => simp [bitsN]
  | cons b l ih =>
    have : b.toNat ≤ 1 := by cases b <;> simp
    rw [bitsN, List.length_cons, Nat.pow_succ]; omega
theorem bitsN_le {l : List Bool} (h : l.length ≤ 64) : bitsN l < 18446744073709551616 :=
  Nat.lt_of_lt_of_le (bitsN_lt l) (Nat.pow_le_pow_right (by decide) h : 2 ^ l.length ≤ 2 ^ 64)
theorem getD_set (l : List Bool) (k : Nat) (b : Bool) (i : Nat) (h : k < l.length) : (l.set k b).getD i false = if k = i then b else l.getD i false := by
  simp only [List.getD_eq_getElem?_getD, List.getElem?_set]
  by_cases e : k = i
  · subst e; simp [h]
  · simp [e]
theorem bitsN_or {l : List Bool} {k : Nat} (h : k < l.length) : bitsN l ||| 2 ^ k = bitsN (l.set k true) := by
  apply Nat.eq_of_testBit_eq
  intro i
  rw [Nat.testBit_or, bitsN_test, bitsN_test, Nat.testBit_two_pow, getD_set _ _ _ _ h]
  by_cases e : k = i <;> simp [e]
theorem bitsN_andNot {l : List Bool} {k : Nat} (h : k < l.length) (hl : l.length ≤ 64) : bitsN l &&& (18446744073709551615 - 2 ^ k) = bitsN (l.set k false) := by
  apply Nat.eq_of_testBit_eq
  intro i
  have hk : (2 : Nat) ^ k < 2 ^ 64 := Nat.pow_lt_pow_right (by decide) (by omega)
  rw [Nat.testBit_and, bitsN_test, bitsN_test, show 18446744073709551615 - 2 ^ k = 2 ^ 64 - (2 ^ k + 1) by omega, Nat.testBit_two_pow_sub_succ hk, Nat.testBit_two_pow, getD_set _ _ _ _ h]
  by_cases e : k = i
  · subst e; simp
  · by_cases h2 : i < 64
    · simp [e, h2]
    · have : l.getD i false = false := by rw [List.getD_eq_getElem?_getD, List.getElem?_eq_none (by omega)]; rfl
      rw [this]; simp
theorem pow64 {k : Nat} (h : k < 64) : (2 : Nat) ^ k < 18446744073709551616 := Nat.pow_lt_pow_right (by decide) h
theorem wrap_pow {k : Nat} (h : k < 64) : IntKind.u64.wrap ((2 : Int) ^ k) = ((2 ^ k : Nat) : Int) := by
  have h1 := pow64 h
  have e : ((2 : Int) ^ k) = ((2 ^ k : Nat) : Int) := by simp
  rw [e]
  generalize 2 ^ k = p at *
  simp [IntKind.wrap, IntKind.bits, IntKind.signed]
  omega
theorem bit_and (l : List Bool) (k : Nat) (hl : l.length ≤ 64) (h : k < 64) : (bits BinOp.and IntKind.u64 (bitsN l : Int) ((2 ^ k : Nat) : Int) != 0) = l.getD k false := by
  rw [u64_and_nat _ _ (bitsN_le hl) (pow64 h), nat_bit, ← bitsN_test, Nat.testBit_eq_decide_div_mod_eq]
  have h2 := Nat.pow_pos (n := k) (show 0 < 2 by decide)
  rcases (show bitsN l / 2 ^ k % 2 = 0 ∨ bitsN l / 2 ^ k % 2 = 1 by omega) with e | e <;> rw [e]
  · simp
  · generalize 2 ^ k = p at *
    simp; omega
theorem bit_or {l : List Bool} {k : Nat} (hl : l.length ≤ 64) (h : k < l.length) : bits BinOp.or IntKind.u64 (bitsN l : Int) ((2 ^ k : Nat) : Int) = (bitsN (l.set k true) : Int) := by
  rw [u64_or_nat _ _ (bitsN_le hl) (pow64 (by omega)), bitsN_or h]
theorem bit_andNot {l : List Bool} {k : Nat} (hl : l.length ≤ 64) (h : k < l.length) : bits BinOp.andNot IntKind.u64 (bitsN l : Int) ((2 ^ k : Nat) : Int) = (bitsN (l.set k false) : Int) := by
  rw [u64_andNot_nat _ _ (bitsN_le hl) (pow64 (by omega)), bitsN_andNot h hl]

/-! ## How many bits are set -/
theorem ones_bits (l : List Bool) (k : Nat) (h : l.length ≤ k) : ones k (bitsN l) = many l := by
  induction l generalizing k with
  | nil =>
    have : ∀ k, ones k 0 = 0 := by intro k; induction k with | zero => rfl | succ k ih => simp [ones, ih]
    simp [bitsN, many, this]
  | cons b l ih =>
    cases k with
    | zero => simp at h
    | succ k =>
      have h2 : (b.toNat + 2 * bitsN l) / 2 = bitsN l := by cases b <;> simp <;> omega
      have h3 : (b.toNat + 2 * bitsN l) % 2 = b.toNat := by cases b <;> simp <;> omega
      simp only [bitsN, ones, h2, h3, ih k (by simpa using h)]
      cases b <;> simp [many] <;> omega
theorem ones_byte (k a y : Nat) (h : a < 256) : ones (8 + k) (a + 256 * y) = ones 8 a + ones k y := by
  have : ones (8 + k) (a + 256 * y) = ones (k + 1 + 1 + 1 + 1 + 1 + 1 + 1 + 1) (a + 256 * y) := by rw [show 8 + k = k + 1 + 1 + 1 + 1 + 1 + 1 + 1 + 1 by omega]
  rw [this]
  simp only [ones]
  rw [show (a + 256 * y) / 2 / 2 / 2 / 2 / 2 / 2 / 2 / 2 = y by omega]
  omega
theorem ones_at (n k a y : Nat) (e : n = 8 + k) (h : a < 256) : ones n (a + 256 * y) = ones 8 a + ones k y := by rw [e]; exact ones_byte k a y h
def msk (c : Nat) : Nat → Nat
  | 0 => 0
  | k + 1 => c + 256 * msk c k
theorem and_byte (a y m M : Nat) (ha : a < 256) (hm : m < 256) : (a + 256 * y) &&& (m + 256 * M) = (a &&& m) + 256 * (y &&& M) := by
  have h1 : (a + 256 * y) = y * 2 ^ 8 + a := by omega
  have h2 : (m + 256 * M) = M * 2 ^ 8 + m := by omega
  have h3 : a &&& m < 256 := Nat.lt_of_le_of_lt Nat.and_le_left ha
  have e1 : ((a + 256 * y) &&& (m + 256 * M)) % 2 ^ 8 = (a &&& m) := by
    rw [Nat.and_mod_two_pow, show (a + 256 * y) % 2 ^ 8 = a by omega, show (m + 256 * M) % 2 ^ 8 = m by omega]
  have e2 : ((a + 256 * y) &&& (m + 256 * M)) / 2 ^ 8 = (y &&& M) := by
    rw [Nat.and_div_two_pow, show (a + 256 * y) / 2 ^ 8 = y by omega, show (m + 256 * M) / 2 ^ 8 = M by omega]
  have := Nat.div_add_mod ((a + 256 * y) &&& (m + 256 * M)) (2 ^ 8)
  rw [e1, e2] at this
  omega
def S1 (k x : Nat) : Nat := (x / 2 &&& msk 85 k) + (x &&& msk 85 k)
def S2 (k x : Nat) : Nat := (x / 4 &&& msk 51 k) + (x &&& msk 51 k)
def S3 (k x : Nat) : Nat := (x / 16 + x) &&& msk 15 k
def b1 (a : Nat) : Nat := (a / 2 &&& 85) + (a &&& 85)
def b2 (a : Nat) : Nat := (a / 4 &&& 51) + (a &&& 51)
theorem b1_lt : ∀ a, a < 256 → b1 a < 256 := by decide +kernel
theorem b2_lt : ∀ a, a < 256 → b2 a < 256 := by decide +kernel
theorem b21 : ∀ a, a < 256 → b2 (b1 a) / 16 ≤ 4 ∧ b2 (b1 a) % 16 ≤ 4 ∧ (b2 (b1 a) / 16 + b2 (b1 a)) % 16 = ones 8 a ∧ ones 8 a ≤ 8 := by decide +kernel
theorem low1 : ∀ a, a < 256 → (a / 2 + 128 &&& 85) = (a / 2 &&& 85) := by decide +kernel
theorem low2 : ∀ r, r < 4 → ∀ a, a < 256 → (a / 4 + 64 * r &&& 51) = (a / 4 &&& 51) := by decide +kernel
theorem S1_byte (k a y : Nat) (h : a < 256) : S1 (k + 1) (a + 256 * y) = b1 a + 256 * S1 k y := by
  unfold S1 b1
  have h1 : (a + 256 * y) / 2 = (a / 2 + 128 * (y % 2)) + 256 * (y / 2) := by omega
  rw [h1]
  simp only [msk]
  rw [and_byte _ _ _ _ (by omega) (by decide), and_byte _ _ _ _ h (by decide)]
  have h2 : (a / 2 + 128 * (y % 2) &&& 85) = (a / 2 &&& 85) := by
    rcases (show y % 2 = 0 ∨ y % 2 = 1 by omega) with e | e <;> rw [e]
    · rfl
    · exact low1 a h
  rw [h2]; omega
theorem S2_byte (k a y : Nat) (h : a < 256) : S2 (k + 1) (a + 256 * y) = b2 a + 256 * S2 k y := by
  unfold S2 b2
  have h1 : (a + 256 * y) / 4 = (a / 4 + 64 * (y % 4)) + 256 * (y / 4) := by omega
  rw [h1]
  simp only [msk]
  rw [and_byte _ _ _ _ (by omega) (by decide), and_byte _ _ _ _ h (by decide), low2 (y % 4) (by omega) a h]; omega
theorem S3_byte (k a y : Nat) (h : a / 16 ≤ 4 ∧ a % 16 ≤ 4) (hy : y % 16 ≤ 4) : S3 (k + 1) (a + 256 * y) = (a / 16 + a) % 16 + 256 * S3 k y := by
  unfold S3
  have h1 : (a + 256 * y) / 16 + (a + 256 * y) = (a / 16 + 16 * (y % 16) + a) + 256 * (y / 16 + y) := by omega
  rw [h1]
  simp only [msk]
  rw [and_byte _ _ _ _ (by omega) (by decide), nat_mask4, show (a / 16 + 16 * (y % 16) + a) % 16 = (a / 16 + a) % 16 by omega]
def P3 (k x : Nat) : Nat := S3 k (S2 k (S1 k x))
theorem low_21 (k x : Nat) (h : x < 256 ^ k) : S2 k (S1 k x) % 16 ≤ 4 := by
  cases k with
  | zero => simp [S2, msk]
  | succ k =>
    have e : x = x % 256 + 256 * (x / 256) := by omega
    rw [e, S1_byte _ _ _ (Nat.mod_lt _ (by decide)), S2_byte _ _ _ (b1_lt _ (Nat.mod_lt _ (by decide)))]
    have := (b21 (x % 256) (Nat.mod_lt _ (by decide))).2.1
    omega
theorem P3_byte (k a y : Nat) (h : a < 256) (hy : y < 256 ^ k) : P3 (k + 1) (a + 256 * y) = ones 8 a + 256 * P3 k y := by
  unfold P3
  obtain ⟨q1, q2, q3, _⟩ := b21 a h
  rw [S1_byte _ _ _ h, S2_byte _ _ _ (b1_lt _ h), S3_byte _ _ _ ⟨q1, q2⟩ (low_21 k y hy), q3]
theorem P3_zero (x : Nat) : P3 0 x = 0 := by simp [P3, S3, msk]
def fold3 (v : Nat) : Nat := let x1 := v + v / 256; let x2 := x1 + x1 / 65536; let x3 := x2 + x2 / 4294967296; x3 % 128
theorem fold_sum (c0 c1 c2 c3 c4 c5 c6 c7 : Nat) (h0 : c0 ≤ 8) (h1 : c1 ≤ 8) (h2 : c2 ≤ 8) (h3 : c3 ≤ 8) (h4 : c4 ≤ 8) (h5 : c5 ≤ 8) (h6 : c6 ≤ 8) (h7 : c7 ≤ 8) :
    fold3 (c0 + 256 * (c1 + 256 * (c2 + 256 * (c3 + 256 * (c4 + 256 * (c5 + 256 * (c6 + 256 * c7))))))) = c0 + c1 + c2 + c3 + c4 + c5 + c6 + c7 := by
  unfold fold3
  simp only []
  rw [show (c0 + 256 * (c1 + 256 * (c2 + 256 * (c3 + 256 * (c4 + 256 * (c5 + 256 * (c6 + 256 * c7))))))) / 256 = (c1 + 256 * (c2 + 256 * (c3 + 256 * (c4 + 256 * (c5 + 256 * (c6 + 256 * c7)))))) by omega]
  rw [show (c0 + 256 * (c1 + 256 * (c2 + 256 * (c3 + 256 * (c4 + 256 * (c5 + 256 * (c6 + 256 * c7))))))) + (c1 + 256 * (c2 + 256 * (c3 + 256 * (c4 + 256 * (c5 + 256 * (c6 + 256 * c7)))))) = (c0 + c1) + 256 * (c1 + c2) + 65536 * ((c2 + c3) + 256 * ((c3 + c4) + 256 * ((c4 + c5) + 256 * ((c5 + c6) + 256 * ((c6 + c7) + 256 * c7))))) by omega]
  rw [show ((c0 + c1) + 256 * (c1 + c2) + 65536 * ((c2 + c3) + 256 * ((c3 + c4) + 256 * ((c4 + c5) + 256 * ((c5 + c6) + 256 * ((c6 + c7) + 256 * c7)))))) / 65536 = ((c2 + c3) + 256 * ((c3 + c4) + 256 * ((c4 + c5) + 256 * ((c5 + c6) + 256 * ((c6 + c7) + 256 * c7))))) by omega]
  rw [show (c0 + c1) + 256 * (c1 + c2) + 65536 * ((c2 + c3) + 256 * ((c3 + c4) + 256 * ((c4 + c5) + 256 * ((c5 + c6) + 256 * ((c6 + c7) + 256 * c7))))) + ((c2 + c3) + 256 * ((c3 + c4) + 256 * ((c4 + c5) + 256 * ((c5 + c6) + 256 * ((c6 + c7) + 256 * c7))))) = ((c0 + c1 + c2 + c3) + 256 * ((c1 + c2 + c3 + c4) + 256 * ((c2 + c3 + c4 + c5) + 256 * (c3 + c4 + c5 + c6)))) + 4294967296 * ((c4 + c5 + c6 + c7) + 256 * ((c5 + c6 + c7) + 256 * ((c6 + c7) + 256 * c7))) by omega]
  rw [show (((c0 + c1 + c2 + c3) + 256 * ((c1 + c2 + c3 + c4) + 256 * ((c2 + c3 + c4 + c5) + 256 * (c3 + c4 + c5 + c6)))) + 4294967296 * ((c4 + c5 + c6 + c7) + 256 * ((c5 + c6 + c7) + 256 * ((c6 + c7) + 256 * c7)))) / 4294967296 = ((c4 + c5 + c6 + c7) + 256 * ((c5 + c6 + c7) + 256 * ((c6 + c7) + 256 * c7))) by omega]
  omega
theorem P3_ones (x : Nat) (h : x < 18446744073709551616) : fold3 (P3 8 x) = ones 64 x ∧ P3 8 x ≤ 578721382704613384 := by
  have hb : ∀ a, a < 256 → ones 8 a ≤ 8 := fun a ha => (b21 a ha).2.2.2
  obtain ⟨a0, y0, e0, l0, m0⟩ : ∃ a y, x = a + 256 * y ∧ a < 256 ∧ y < 256 ^ 7 := ⟨x % 256, x / 256, by omega, by omega, by omega⟩
  obtain ⟨a1, y1, e1, l1, m1⟩ : ∃ a y, y0 = a + 256 * y ∧ a < 256 ∧ y < 256 ^ 6 := ⟨y0 % 256, y0 / 256, by omega, by omega, by omega⟩
  obtain ⟨a2, y2, e2, l2, m2⟩ : ∃ a y, y1 = a + 256 * y ∧ a < 256 ∧ y < 256 ^ 5 := ⟨y1 % 256, y1 / 256, by omega, by omega, by omega⟩
  obtain ⟨a3, y3, e3, l3, m3⟩ : ∃ a y, y2 = a + 256 * y ∧ a < 256 ∧ y < 256 ^ 4 := ⟨y2 % 256, y2 / 256, by omega, by omega, by omega⟩
  obtain ⟨a4, y4, e4, l4, m4⟩ : ∃ a y, y3 = a + 256 * y ∧ a < 256 ∧ y < 256 ^ 3 := ⟨y3 % 256, y3 / 256, by omega, by omega, by omega⟩
  obtain ⟨a5, y5, e5, l5, m5⟩ : ∃ a y, y4 = a + 256 * y ∧ a < 256 ∧ y < 256 ^ 2 := ⟨y4 % 256, y4 / 256, by omega, by omega, by omega⟩
  obtain ⟨a6, y6, e6, l6, m6⟩ : ∃ a y, y5 = a + 256 * y ∧ a < 256 ∧ y < 256 ^ 1 := ⟨y5 % 256, y5 / 256, by omega, by omega, by omega⟩
  obtain ⟨a7, y7, e7, l7, m7⟩ : ∃ a y, y6 = a + 256 * y ∧ a < 256 ∧ y < 256 ^ 0 := ⟨y6 % 256, y6 / 256, by omega, by omega, by omega⟩
  have z : y7 = 0 := by omega
  have p : P3 8 x = ones 8 a0 + 256 * (ones 8 a1 + 256 * (ones 8 a2 + 256 * (ones 8 a3 + 256 * (ones 8 a4 + 256 * (ones 8 a5 + 256 * (ones 8 a6 + 256 * ones 8 a7)))))) := by
    rw [e0, P3_byte 7 _ _ l0 m0, e1, P3_byte 6 _ _ l1 m1, e2, P3_byte 5 _ _ l2 m2, e3, P3_byte 4 _ _ l3 m3, e4, P3_byte 3 _ _ l4 m4, e5, P3_byte 2 _ _ l5 m5, e6, P3_byte 1 _ _ l6 m6, e7, P3_byte 0 _ _ l7 m7, P3_zero, Nat.mul_zero, Nat.add_zero]
  have q : ones 64 x = ones 8 a0 + ones 8 a1 + ones 8 a2 + ones 8 a3 + ones 8 a4 + ones 8 a5 + ones 8 a6 + ones 8 a7 := by
    have o0 := ones_at 64 56 a0 y0 rfl l0
    have o1 := ones_at 56 48 a1 y1 rfl l1
    have o2 := ones_at 48 40 a2 y2 rfl l2
    have o3 := ones_at 40 32 a3 y3 rfl l3
    have o4 := ones_at 32 24 a4 y4 rfl l4
    have o5 := ones_at 24 16 a5 y5 rfl l5
    have o6 := ones_at 16 8 a6 y6 rfl l6
    have o7 := ones_at 8 0 a7 y7 rfl l7
    have o8 : ones 0 y7 = 0 := rfl
    rw [← e0] at o0; rw [← e1] at o1; rw [← e2] at o2; rw [← e3] at o3; rw [← e4] at o4; rw [← e5] at o5; rw [← e6] at o6; rw [← e7] at o7
    generalize ones 64 x = r at *
    generalize ones 56 y0 = r0 at *
    generalize ones 48 y1 = r1 at *
    generalize ones 40 y2 = r2 at *
    generalize ones 32 y3 = r3 at *
    generalize ones 24 y4 = r4 at *
    generalize ones 16 y5 = r5 at *
    generalize ones 8 y6 = r6 at *
    generalize ones 0 y7 = r7 at *
    clear e0 e1 e2 e3 e4 e5 e6 e7 m0 m1 m2 m3 m4 m5 m6 m7
    omega
  have k0 := hb _ l0; have k1 := hb _ l1; have k2 := hb _ l2; have k3 := hb _ l3; have k4 := hb _ l4; have k5 := hb _ l5; have k6 := hb _ l6; have k7 := hb _ l7
  rw [p, q]
  exact ⟨fold_sum _ _ _ _ _ _ _ _ k0 k1 k2 k3 k4 k5 k6 k7, by omega⟩
theorem msk85 : msk 85 8 = 6148914691236517205 := by decide
theorem msk51 : msk 51 8 = 3689348814741910323 := by decide
theorem msk15 : msk 15 8 = 1085102592571150095 := by decide
end Go.Proofs.YtlfbjgeobibnhaaGreatDoor
/-
  PLAIN: the cells of an arena that holds these slots and ages; what a call keeps of memory.
-/
namespace Go.Proofs.YtlfbjgeobibnhaaGreatDoor
open Go.RowKit
set_option maxRecDepth 100000
set_option linter.unusedVariables false
set_option linter.unusedSimpArgs false

/-- Slots: which are taken; how often each was. -/
structure Ar where
  tk : List Bool
  ag : List Nat
def agesV (ag : List Nat) : List Value := (List.range 64).map fun i => Value.int .i64 (ag.getD i 0 : Int)
def arC (B : Nat) (s : Ar) : Array Value := (([.pointer (some ⟨B, 0, none⟩), .int .i64 s.tk.length, .int .u64 (bitsN s.tk : Int)] : List Value) ++ agesV s.ag).toArray
theorem arC_size (B : Nat) (s : Ar) : (arC B s).size = 67 := by simp [arC, agesV]
theorem arC_0 (B : Nat) (s : Ar) : (arC B s)[0]? = some (.pointer (some ⟨B, 0, none⟩)) := by simp [arC]
theorem arC_1 (B : Nat) (s : Ar) : (arC B s)[1]? = some (.int .i64 s.tk.length) := by simp [arC]
theorem arC_2 (B : Nat) (s : Ar) : (arC B s)[2]? = some (.int .u64 (bitsN s.tk : Int)) := by simp [arC]
theorem arC_3 (B : Nat) (s : Ar) {k : Nat} (h : k < 64) : (arC B s)[3 + k]? = some (.int .i64 (s.ag.getD k 0 : Int)) := by
  rw [show 3 + k = k + 1 + 1 + 1 by omega]
  simp [arC, agesV, h]
theorem arC_set2 (B : Nat) (s : Ar) (k : Nat) (b : Bool) : (arC B s).setIfInBounds 2 (.int .u64 (bitsN (s.tk.set k b) : Int)) = arC B ⟨s.tk.set k b, s.ag⟩ := by
  simp [arC]
theorem agesV_set (ag : List Nat) {k : Nat} (h : k < 64) (hl : k < ag.length) (x : Nat) : (agesV ag).set k (.int .i64 (x : Int)) = agesV (ag.set k x) := by
  apply List.ext_getElem?
  intro i
  simp only [agesV, List.getElem?_set, List.getElem?_map, List.getD_eq_getElem?_getD]
  by_cases e : k = i
  · subst e; simp [h, hl]
  · rcases hi : (List.range 64)[i]? with _ | j
    · simp [e]
    · have hj : j = i := by
        have := (List.getElem?_eq_some_iff.1 hi).2
        simpa using this.symm
      subst hj
      simp [e]
theorem arC_set3 (B : Nat) (s : Ar) {k : Nat} (h : k < 64) (hl : k < s.ag.length) (x : Nat) : (arC B s).setIfInBounds (3 + k) (.int .i64 (x : Int)) = arC B ⟨s.tk, s.ag.set k x⟩ := by
  rw [show 3 + k = k + 1 + 1 + 1 by omega]
  simp only [arC, List.setIfInBounds_toArray, List.cons_append, List.nil_append, List.set_cons_succ]
  rw [agesV_set _ h hl]

/-- All blocks that P names are as they were. -/
structure Kept (w w' : World) (P : Nat → Prop) : Prop where
  os : w'.os = w.os
  tape : w'.tape = w.tape
  output : w'.output = w.output
  size : w.heap.size ≤ w'.heap.size
  block : ∀ k, k < w.heap.size → P k → w'.heap[k]? = w.heap[k]?
theorem Kept.refl (w : World) (P : Nat → Prop) : Kept w w P := ⟨rfl, rfl, rfl, Nat.le_refl _, fun _ _ _ => rfl⟩
theorem Kept.of_below {w w' : World} {P : Nat → Prop} (h : Below w.heap.size w w') : Kept w w' P := ⟨h.os, h.tape, h.output, h.size, fun k hk _ => h.block k hk⟩
theorem Kept.weak {w w' : World} {P Q : Nat → Prop} (h : Kept w w' P) (hq : ∀ k, Q k → P k) : Kept w w' Q := ⟨h.os, h.tape, h.output, h.size, fun k hk q => h.block k hk (hq k q)⟩
theorem Kept.trans {a b c : World} {P : Nat → Prop} (h : Kept a b P) (k : Kept b c P) : Kept a c P :=
  ⟨k.os.trans h.os, k.tape.trans h.tape, k.output.trans h.output, Nat.le_trans h.size k.size, fun i hi p => (k.block i (Nat.lt_of_lt_of_le hi h.size) p).trans (h.block i hi p)⟩
theorem Kept.below {w w' : World} {P : Nat → Prop} {B : Nat} (h : Kept w w' P) (hB : B ≤ w.heap.size) (hp : ∀ k, k < B → P k) : Below B w w' :=
  ⟨h.os, h.tape, h.output, h.size, fun k hk => h.block k (by omega) (hp k hk)⟩
theorem Kept.cell {w w' : World} {P : Nat → Prop} (h : Kept w w' P) {b o : Nat} {sp : _} (hb : b < w.heap.size) (hp : P b) : w'.cell? ⟨b, o, sp⟩ = w.cell? ⟨b, o, sp⟩ := World.cell?_of_block (h.block b hb hp)
theorem Kept.frozen {w w' : World} {P : Nat → Prop} (h : Kept w w' P) {b o : Nat} {sp : _} (hb : b < w.heap.size) (hp : P b) : w'.frozen? ⟨b, o, sp⟩ = w.frozen? ⟨b, o, sp⟩ := World.frozen?_of_block (h.block b hb hp)
theorem AtC.kept {W W1 : World} {B : Nat} {C : Array Value} {P : Nat → Prop} (h : AtC W B C) (k : Kept W W1 P) (hp : P B) : AtC W1 B C :=
  ⟨Nat.lt_of_lt_of_le h.lt k.size, fun i => by rw [k.cell h.lt hp]; exact h.c i, fun i => by rw [k.frozen h.lt hp]; exact h.f i⟩
theorem Kept.set {w W : World} {P : Nat → Prop} (h : Kept w W P) {B i : Nat} (hB : ¬ P B) (v : Value) : Kept w (W.setCell ⟨B, i, none⟩ v) P := by
  refine ⟨h.os, h.tape, h.output, by simpa [World.setCell] using h.size, fun k hk p => ?_⟩
  rw [Below.heap_setCell _ _ _ _ (fun e => hB (by have : k = B := e; exact this ▸ p))]
  exact h.block k hk p
theorem bKept {w W W1 : World} {P : Nat → Prop} (h : Below w.heap.size w W) (k : Kept W W1 P) (hp : ∀ i, i < w.heap.size → P i) : Below w.heap.size w W1 := h.trans (k.below h.size hp)
end Go.Proofs.YtlfbjgeobibnhaaGreatDoor
/-
  WALKS: made, exists, Taken, Age, Size, Many of an arena; math/bits.OnesCount64.
-/
namespace Go.Proofs.YtlfbjgeobibnhaaGreatDoor
open Go.RowKit
set_option maxRecDepth 100000
set_option linter.unusedVariables false
set_option linter.unusedSimpArgs false

abbrev ptr (B : Nat) : Value := .pointer (some ⟨B, 0, none⟩)
structure ArOk (s : Ar) : Prop where
  pos : 1 ≤ s.tk.length
  le : s.tk.length ≤ 64
  len : s.ag.length = s.tk.length
theorem arena_info : Tryz.prog.info? 80 = some (Tryz.prog.info? 80).get! := by kernel_rfl
theorem made_any (B : Nat) (s : Ar) (w : World) (hA : AtC w B (arC B s)) : Calls Tryz.prog 65 #[ptr B] w fun e w' => e = .returned (.bool true) ∧ w = w' := by
  have c0 := (hA.c 0).trans (arC_0 B s)
  have HE := fun W => run_eql_ptr_same (P := Tryz.prog) W (tp := 47) ⟨B, 0, none⟩ Tryz.underlying47 arena_info
  clear hA
  go_enter Tryz.func65, Tryz.ntmps65
  go_wp2
  go_ret
  exact ⟨rfl, rfl⟩
/-- Is it a slot of the arena? -/
def exB (s : Ar) (k : Int) : Bool := decide (0 ≤ k) && decide (k < s.tk.length)
theorem exists_any (B : Nat) (s : Ar) (k : Int) (w : World) (hA : AtC w B (arC B s)) : Calls Tryz.prog 77 #[ptr B, .int .i64 k] w fun e w' => e = .returned (.bool (exB s k)) ∧ w = w' := by
  have c1 := (hA.c 1).trans (arC_1 B s)
  have C := Lib.hid (made_any B s w hA)
  have HE : Hid (exB s k = (decide (0 ≤ k) && decide (k < s.tk.length))) := Lib.hid rfl
  clear hA
  generalize exB s k = b at *
  by_cases h0 : 0 ≤ k
  · go_enter Tryz.func77, Tryz.ntmps77
    go_wp2_with (go_at_call 65; ((with_reducible refine C.out.mono ?_); rintro e w1 ⟨rfl, rfl⟩))
    go_ret
    exact ⟨by rw [HE.out]; simp [h0], rfl⟩
  · go_enter Tryz.func77, Tryz.ntmps77
    go_wp2_with (go_at_call 65; ((with_reducible refine C.out.mono ?_); rintro e w1 ⟨rfl, rfl⟩))
    go_ret
    exact ⟨by rw [HE.out, decide_eq_false (by omega)]; rfl, rfl⟩
def takenB (s : Ar) (k : Int) : Bool := exB s k && s.tk.getD k.toNat false
theorem taken_any (B : Nat) (s : Ar) (hs : ArOk s) (k : Int) (w : World) (hA : AtC w B (arC B s)) : Calls Tryz.prog 68 #[ptr B, .int .i64 k] w fun e w' => e = .returned (.bool (takenB s k)) ∧ Below w.heap.size w w' := by
  have C := Lib.hid (fun W q => exists_any B s k W (hA.then q))
  have c2 := (hA.c 2).trans (arC_2 B s)
  cases h : exB s k with
  | false =>
    have HT := Lib.hid (show takenB s k = false by simp [takenB, h])
    generalize takenB s k = b at *
    rw [h] at C
    clear hA hs h
    go_enter Tryz.func68, Tryz.ntmps68
    go_wp2
    go_quiet ((go_at_call 77; exact Calls.quiet_of_same ((C.out _ (bDrew (Below.refl _ _) _)).mono fun _ _ h => ⟨h.1, h.2.symm⟩)))
    go_wp2
    go_ret
    exact ⟨by rw [HT.out]; rfl, bDrew (Below.refl _ _) _⟩
  | true =>
    have hk : 0 ≤ k ∧ k < s.tk.length := by simpa [exB] using h
    obtain ⟨n, rfl⟩ := Int.eq_ofNat_of_zero_le hk.1
    have hn : n < 64 := by have := hs.le; omega
    have HT := Lib.hid (show takenB s n = s.tk.getD n false by simp [takenB, h])
    have HB := Lib.hid (bit_and s.tk n hs.le hn)
    generalize takenB s n = b at *
    rw [h] at C
    clear hA h
    go_enter Tryz.func68, Tryz.ntmps68
    go_wp2
    go_quiet ((go_at_call 77; exact Calls.quiet_of_same ((C.out _ (bDrew (Below.refl _ _) _)).mono fun _ _ h => ⟨h.1, h.2.symm⟩)))
    go_wp2
    go_ret
    exact ⟨by rw [HT.out, ← HB.out, ← wrap_pow hn]; rfl, bDrew (Below.refl _ _) _⟩
def ageN (s : Ar) (k : Int) : Nat := if exB s k then s.ag.getD k.toNat 0 else 0
theorem size_any (B : Nat) (s : Ar) (w : World) (hA : AtC w B (arC B s)) : Calls Tryz.prog 58 #[ptr B] w fun e w' => e = .returned (.int .i64 s.tk.length) ∧ w = w' := by
  have c1 := (hA.c 1).trans (arC_1 B s)
  have C := Lib.hid (made_any B s w hA)
  clear hA
  go_enter Tryz.func58, Tryz.ntmps58
  go_wp2_with (go_at_call 65; ((with_reducible refine C.out.mono ?_); rintro e w1 ⟨rfl, rfl⟩))
  go_ret
  exact ⟨rfl, rfl⟩
theorem wrapU {a : Nat} (h : a < 18446744073709551616) : IntKind.u64.wrap (a : Int) = (a : Int) := by
  simp [IntKind.wrap, IntKind.bits, IntKind.signed]; omega
theorem S1_le (x : Nat) : S1 8 x ≤ 12297829382473034410 := by
  unfold S1; have h1 := @Nat.and_le_right (x / 2) (msk 85 8); have h2 := @Nat.and_le_right x (msk 85 8); rw [msk85] at *; omega
theorem S2_le (x : Nat) : S2 8 x ≤ 7378697629483820646 := by
  unfold S2; have h1 := @Nat.and_le_right (x / 4) (msk 51 8); have h2 := @Nat.and_le_right x (msk 51 8); rw [msk51] at *; omega
theorem ret_i {k : IntKind} {a b : Int} (h : a = b) : Ending.returned (.int k a) = .returned (.int k b) := by rw [h]
theorem ones_e1 (x : Nat) (h : x < 18446744073709551616) : IntKind.u64.wrap (bits BinOp.and IntKind.u64 ((x : Int) / 2) 6148914691236517205 + bits BinOp.and IntKind.u64 (x : Int) 6148914691236517205) = (S1 8 x : Int) := by
  have h1 := u64_and_nat (x / 2) 6148914691236517205 (by omega) (by omega)
  have h2 := u64_and_nat x 6148914691236517205 h (by omega)
  have hs := S1_le x
  rw [show ((x : Int) / 2) = ((x / 2 : Nat) : Int) by simp]
  rw [show (6148914691236517205 : Int) = ((6148914691236517205 : Nat) : Int) from rfl, h1, h2, ← Int.natCast_add]
  have e : (x / 2 &&& 6148914691236517205) + (x &&& 6148914691236517205) = S1 8 x := by unfold S1; rw [msk85]
  rw [e, wrapU (by omega)]
theorem ones_e2 (x : Nat) (h : x < 18446744073709551616) : IntKind.u64.wrap (bits BinOp.and IntKind.u64 ((x : Int) / 4) 3689348814741910323 + bits BinOp.and IntKind.u64 (x : Int) 3689348814741910323) = (S2 8 x : Int) := by
  have h1 := u64_and_nat (x / 4) 3689348814741910323 (by omega) (by omega)
  have h2 := u64_and_nat x 3689348814741910323 h (by omega)
  have hs := S2_le x
  rw [show ((x : Int) / 4) = ((x / 4 : Nat) : Int) by simp]
  rw [show (3689348814741910323 : Int) = ((3689348814741910323 : Nat) : Int) from rfl, h1, h2, ← Int.natCast_add]
  have e : (x / 4 &&& 3689348814741910323) + (x &&& 3689348814741910323) = S2 8 x := by unfold S2; rw [msk51]
  rw [e, wrapU (by omega)]
theorem ones_e3 (x : Nat) (h : x ≤ 7378697629483820646) : bits BinOp.and IntKind.u64 (IntKind.u64.wrap ((x : Int) / 16 + (x : Int))) 1085102592571150095 = (S3 8 x : Int) := by
  rw [show ((x : Int) / 16 + (x : Int)) = ((x / 16 + x : Nat) : Int) by simp, wrapU (by omega)]
  have h1 := u64_and_nat (x / 16 + x) 1085102592571150095 (by omega) (by omega)
  rw [show (1085102592571150095 : Int) = ((1085102592571150095 : Nat) : Int) from rfl, h1]
  unfold S3; rw [msk15]
theorem ones_e4 (x : Nat) (h : x ≤ 578721382704613384) : bits BinOp.and IntKind.i64 (wrap64 (IntKind.u64.wrap (IntKind.u64.wrap (IntKind.u64.wrap ((x : Int) + (x : Int) / 256) + IntKind.u64.wrap ((x : Int) + (x : Int) / 256) / 65536) + IntKind.u64.wrap (IntKind.u64.wrap ((x : Int) + (x : Int) / 256) + IntKind.u64.wrap ((x : Int) + (x : Int) / 256) / 65536) / 4294967296))) 127 = (fold3 x : Int) := by
  rw [show ((x : Int) + (x : Int) / 256) = ((x + x / 256 : Nat) : Int) by simp, wrapU (by omega)]
  unfold fold3
  generalize hv : x + x / 256 = v
  simp only []
  rw [show ((v : Int) + (v : Int) / 65536) = ((v + v / 65536 : Nat) : Int) by simp, wrapU (by omega)]
  generalize hu : v + v / 65536 = u
  rw [show ((u : Int) + (u : Int) / 4294967296) = ((u + u / 4294967296 : Nat) : Int) by simp, wrapU (by omega)]
  rw [i64_and127]
  generalize ht : u + u / 4294967296 = t
  rw [show wrap64 (t : Int) = (t : Int) by unfold wrap64; omega]
  simp
end Go.Proofs.YtlfbjgeobibnhaaGreatDoor
/-
  PLAIN: a tree as it lies in memory: its own block, the arena's, the index of all, the map of the indices of kids; what a call on one part does to the whole.
-/
namespace Go.Proofs.YtlfbjgeobibnhaaGreatDoor.TX
open Go.RowKit HL
open IX (ptr El cellsK OwnK IxAt Rw)
set_option maxRecDepth 100000
set_option linter.unusedVariables false
set_option linter.unusedSimpArgs false

noncomputable def obK : El Ob where
  T := 38
  e := 33
  size := 14
  bytes := (IX.infoOf 33).bytes
  z := ob zeroOb
  i := IX.infoOf 33
  enc := fun o => (obCells o).toList
  el := by kernel_rfl
  ht := Tryz.underlying38
  hi := by kernel_rfl
  hz := by kernel_rfl
  hs := by kernel_rfl
  hb := rfl
  hzs := rfl
  pos := by decide
  len := fun _ => rfl
  one := fun _ u hu => by simp at hu; rcases hu with rfl | rfl | rfl | rfl | rfl | rfl | rfl | rfl | rfl | rfl | rfl | rfl | rfl | rfl <;> rfl
  small := of_decide_eq_true (by kernel_rfl)
/-- What the slot holds. -/
def obOf (x : Option Ob) : Ob := x.getD zeroOb
def obsOf (s : Sl) : List Ob := (List.range 64).map fun i => obOf (s.getD i none)
theorem obsOf_len (s : Sl) : (obsOf s).length = 64 := by simp [obsOf]
theorem obsOf_at (s : Sl) {k : Nat} (h : k < 64) : (obsOf s)[k]? = some (obOf (s.getD k none)) := by simp [obsOf, h]
theorem obsOf_set (s : Sl) {k : Nat} (h : k < 64) (hk : k < s.length) (x : Option Ob) : obsOf (s.set k x) = (obsOf s).set k (obOf x) := by
  apply List.ext_getElem?
  intro i
  by_cases hi : i < 64
  · rw [obsOf_at _ hi, List.getElem?_set, obsOf_at _ hi, obsOf_len]
    simp only [List.getD_eq_getElem?_getD, List.getElem?_set]
    by_cases e : k = i
    · subst e; simp [hk, hi]
    · simp [e]
  · rw [List.getElem?_eq_none (by rw [obsOf_len]; omega), List.getElem?_eq_none (by rw [List.length_set, obsOf_len]; omega)]
theorem cells_cut (l : List Ob) {k : Nat} (hk : k < l.length) (y : Ob) : cellsK obK (l.set k y) = cellsK obK (l.take k) ++ (obCells y).toList ++ cellsK obK (l.drop (k + 1)) := by
  rw [List.set_eq_take_append_cons_drop, if_pos hk, IX.cellsK_app, IX.cellsK_cons, List.append_assoc]; rfl
theorem cells_other (l : List Ob) {k : Nat} (hk : k < l.length) (y : Ob) {j : Nat} (hj : j < k * 14 ∨ k * 14 + 14 ≤ j) : (cellsK obK (l.set k y))[j]? = (cellsK obK l)[j]? := by
  have e1 := cells_cut l hk y
  have e2 := cells_cut l hk l[k]
  rw [List.set_getElem_self] at e2
  rw [e1, e2]
  have h1 : (cellsK obK (l.take k)).length = k * 14 := by rw [IX.cellsK_len, List.length_take, Nat.min_eq_left (by omega)]; rfl
  rcases hj with hj | hj
  · rw [List.append_assoc, List.append_assoc, List.getElem?_append_left (by omega), List.getElem?_append_left (by omega)]
  · rw [List.getElem?_append_right (by simp [h1]; omega), List.getElem?_append_right (by simp [h1]; omega)]
    simp [h1]
inductive Tag where
  | tr | ar | mp | other
  | ix (o : Option Bs)
  | row (o : Option Bs)
/-- Where a tree's parts lie: its own block, the arena's, the index' of all, the map's; the rows of the index of all; the indices of kids and their rows; what each block is for; a bound on the map's entries and on the ages; the ages. -/
structure Lay where
  T : Nat
  A : Nat
  P : Nat
  M : Nat
  vP : Value
  f : Bs → Option Nat
  V : Bs → Value
  g : Nat → Tag
  n : Nat
  ag : List Nat
noncomputable def trC (L : Lay) (s : Sl) : Array Value := ([ptr L.T, ptr L.A, ptr L.P, .map (some L.M)] ++ cellsK obK (obsOf s)).toArray
theorem trC_0 (L : Lay) (s : Sl) : (trC L s)[0]? = some (ptr L.T) := by simp [trC]
theorem trC_1 (L : Lay) (s : Sl) : (trC L s)[1]? = some (ptr L.A) := by simp [trC]
theorem trC_2 (L : Lay) (s : Sl) : (trC L s)[2]? = some (ptr L.P) := by simp [trC]
theorem trC_3 (L : Lay) (s : Sl) : (trC L s)[3]? = some (.map (some L.M)) := by simp [trC]
theorem trC_up (L : Lay) (s : Sl) (j : Nat) : (trC L s)[4 + j]? = (cellsK obK (obsOf s))[j]? := by
  simp only [trC, List.getElem?_toArray]
  rw [List.getElem?_append_right (by simp)]
  simp
theorem trC_ob (L : Lay) (s : Sl) {k i : Nat} (hk : k < 64) (hi : i < 14) : (trC L s)[4 + k * 14 + i]? = (obCells (obOf (s.getD k none)))[i]? := by
  rw [Nat.add_assoc, trC_up]
  have hu : (obK.enc (obOf (s.getD k none)))[i]? = some (obCells (obOf (s.getD k none)))[i] := by
    show (obCells _).toList[i]? = _
    rw [Array.getElem?_toList]; exact Array.getElem?_eq_getElem (by simpa using hi)
  have := IX.cellsK_at obK (obsOf_at s hk) hu
  rw [show k * obK.size = k * 14 from rfl] at this
  rw [this, Array.getElem?_eq_getElem (by simpa using hi)]
theorem trC_size (L : Lay) (s : Sl) : (trC L s).size = 900 := by
  simp [trC, IX.cellsK_len, obsOf_len]
  rfl
theorem trC_other (L : Lay) (s : Sl) {k : Nat} (hk : k < 64) (hl : k < s.length) (x : Option Ob) {j : Nat} (hj : j < 4 + k * 14 ∨ 4 + k * 14 + 14 ≤ j) : (trC L (s.set k x))[j]? = (trC L s)[j]? := by
  by_cases h4 : j < 4
  · rcases (show j = 0 ∨ j = 1 ∨ j = 2 ∨ j = 3 by omega) with rfl | rfl | rfl | rfl
    · rw [trC_0, trC_0]
    · rw [trC_1, trC_1]
    · rw [trC_2, trC_2]
    · rw [trC_3, trC_3]
  · obtain ⟨i, rfl⟩ : ∃ i, j = 4 + i := ⟨j - 4, by omega⟩
    rw [trC_up, trC_up, obsOf_set s hk hl, cells_other _ (by rw [obsOf_len]; exact hk) _ (by omega)]
/-! ## A row of cells filled, one behind the other -/
structure AtU (W : World) (B : Nat) (C C' : Array Value) (off n : Nat) : Prop where
  lt : B < W.heap.size
  c : ∀ j, W.cell? ⟨B, j, none⟩ = if off ≤ j ∧ j < off + n then C'[j]? else C[j]?
  f : ∀ j, W.frozen? ⟨B, j, none⟩ = false
theorem AtU.start {W : World} {B : Nat} {C C' : Array Value} (h : AtC W B C) (off : Nat) : AtU W B C C' off 0 :=
  ⟨h.lt, fun j => by rw [if_neg (by omega)]; exact h.c j, h.f⟩
theorem AtU.step {W : World} {B : Nat} {C C' : Array Value} {off n : Nat} (h : AtU W B C C' off n) (hn : off + n < C.size) {v : Value} (hv : C'[off + n]? = some v) : AtU (W.setCell ⟨B, off + n, none⟩ v) B C C' off (n + 1) := by
  refine ⟨by simp [World.setCell]; exact h.lt, fun j => ?_, fun j => by simp; exact h.f j⟩
  by_cases e : off + n = j
  · subst e
    have h1 : W.cell? ⟨B, off + n, none⟩ = some C[off + n] := by rw [h.c, if_neg (by omega)]; simp [hn]
    rw [World.cell?_setCell_same _ _ _ h1, if_pos (by omega), hv]
  · have n0 : (⟨B, off + n, none⟩ : Addr) ≠ ⟨B, j, none⟩ := fun x => e (by injection x)
    rw [World.cell?_setCell_other (h := n0), h.c j]
    by_cases q : off ≤ j ∧ j < off + n
    · rw [if_pos q, if_pos (by omega)]
    · rw [if_neg q, if_neg (by omega)]
theorem AtU.done {W : World} {B : Nat} {C C' : Array Value} {off n : Nat} (h : AtU W B C C' off n) (ho : ∀ j, j < off ∨ off + n ≤ j → C'[j]? = C[j]?) : AtC W B C' :=
  ⟨h.lt, fun j => by
    rw [h.c j]
    split
    · rfl
    · exact (ho j (by omega)).symm, h.f⟩
/-- An object's cells stored, one behind the other. -/
abbrev put14 (W : World) (T off : Nat) (o : Ob) : World := ((((((((((((((W.setCell ⟨T, off, none⟩ (.string o.handle)).setCell ⟨T, off + 1, none⟩ (.int .u8 o.kind)).setCell ⟨T, off + 2, none⟩ (.string o.parent)).setCell ⟨T, off + 3, none⟩ (.int .u8 o.typ)).setCell ⟨T, off + 4, none⟩ (.string o.ref)).setCell ⟨T, off + 5, none⟩ (.int .i64 o.lo)).setCell ⟨T, off + 6, none⟩ (.int .i64 o.hi)).setCell ⟨T, off + 7, none⟩ (.int .u8 o.digits)).setCell ⟨T, off + 8, none⟩ (.bool o.on)).setCell ⟨T, off + 9, none⟩ (.bool o.has)).setCell ⟨T, off + 10, none⟩ (.int .i64 o.value)).setCell ⟨T, off + 11, none⟩ (.int .i64 o.low)).setCell ⟨T, off + 12, none⟩ (.int .i64 o.high)).setCell ⟨T, off + 13, none⟩ (.int .u8 o.assoc))
theorem put14_far {W : World} {B T off : Nat} {C : Array Value} {o : Ob} (h : AtC W B C) (hB : T ≠ B) : AtC (put14 W T off o) B C :=
  (((((((((((((h.store hB _).store hB _).store hB _).store hB _).store hB _).store hB _).store hB _).store hB _).store hB _).store hB _).store hB _).store hB _).store hB _).store hB _
theorem put14_kept {w W : World} {P : Nat → Prop} {T off : Nat} {o : Ob} (h : IX.Kept w W P) (hT : T < w.heap.size → ¬ P T) : IX.Kept w (put14 W T off o) P :=
  (((((((((((((h.set hT _).set hT _).set hT _).set hT _).set hT _).set hT _).set hT _).set hT _).set hT _).set hT _).set hT _).set hT _).set hT _).set hT _
set_option maxHeartbeats 2000000 in
/-- An object stored into its slot. -/
theorem put14_slot {W : World} {L : Lay} {s : Sl} (h : AtC W L.T (trC L s)) {k : Nat} (hk : k < 64) (hl : k < s.length) (x : Option Ob) : AtC (put14 W L.T (4 + k * 14) (obOf x)) L.T (trC L (s.set k x)) := by
  have e : ∀ i, i < 14 → (trC L (s.set k x))[4 + k * 14 + i]? = (obCells (obOf x))[i]? := fun i hi => by
    rw [trC_ob L _ hk hi]
    simp [List.getD_eq_getElem?_getD, hl]
  have z : ∀ i, i < 14 → 4 + k * 14 + i < (trC L s).size := fun i hi => by rw [trC_size]; omega
  have q := AtU.start (C' := trC L (s.set k x)) h (4 + k * 14)
  have q := q.step (z 0 (by decide)) (e 0 (by decide))
  have q := q.step (z 1 (by decide)) (e 1 (by decide))
  have q := q.step (z 2 (by decide)) (e 2 (by decide))
  have q := q.step (z 3 (by decide)) (e 3 (by decide))
  have q := q.step (z 4 (by decide)) (e 4 (by decide))
  have q := q.step (z 5 (by decide)) (e 5 (by decide))
  have q := q.step (z 6 (by decide)) (e 6 (by decide))
  have q := q.step (z 7 (by decide)) (e 7 (by decide))
  have q := q.step (z 8 (by decide)) (e 8 (by decide))
  have q := q.step (z 9 (by decide)) (e 9 (by decide))
  have q := q.step (z 10 (by decide)) (e 10 (by decide))
  have q := q.step (z 11 (by decide)) (e 11 (by decide))
  have q := q.step (z 12 (by decide)) (e 12 (by decide))
  have q := q.step (z 13 (by decide)) (e 13 (by decide))
  exact q.done fun j hj => trC_other L s hk hl x hj
end Go.Proofs.YtlfbjgeobibnhaaGreatDoor.TX
/-
  PLAIN: a tree in memory, part by part; what a call on one part leaves of the whole.
-/
namespace Go.Proofs.YtlfbjgeobibnhaaGreatDoor.TX
open Go.RowKit HL
open IX (ptr El cellsK OwnK IxAt Rw)
set_option maxRecDepth 100000
set_option linter.unusedVariables false
set_option linter.unusedSimpArgs false

/-- A tree whose arena has the slots tk taken, whose index of all is lp, whose objects are s, whose kids are r; its blocks are all from b0 on. -/
structure TrAt (w : World) (b0 : Nat) (L : Lay) (tk : List Bool) (lp : List Rw) (s : Sl) (r : Bs → List Rw) : Prop where
  c : AtC w L.T (trC L s)
  a : AtC w L.A (arC L.A ⟨tk, L.ag⟩)
  ok : ArOk ⟨tk, L.ag⟩
  age : ∀ i, L.ag.getD i 0 ≤ L.n
  p : IxAt w L.P L.vP lp
  m : MapAt w L.M L.n L.f
  k : ∀ h B, L.f h = some B → IxAt w B (L.V h) (r h) ∧ L.g B = .ix (some h) ∧ ∀ j, (L.V h).ownBlock = some j → L.g j = .row (some h)
  z : ∀ h, L.f h = none → r h = []
  gT : L.g L.T = .tr
  gA : L.g L.A = .ar
  gM : L.g L.M = .mp
  gP : L.g L.P = .ix none
  gV : ∀ j, L.vP.ownBlock = some j → L.g j = .row none
  lt : ∀ j, L.g j ≠ .other → b0 ≤ j ∧ j < w.heap.size
  ln : tk.length = s.length
variable {w w' : World} {b0 : Nat} {L : Lay} {tk : List Bool} {lp : List Rw} {s : Sl} {r : Bs → List Rw} {P : Nat → Prop}
theorem TrAt.kept (h : TrAt w b0 L tk lp s r) (k : IX.Kept w w' P) (hp : ∀ j, j < w.heap.size → L.g j ≠ .other → P j) : TrAt w' b0 L tk lp s r where
  c := k.atC h.c (hp _ h.c.lt (by rw [h.gT]; simp))
  a := k.atC h.a (hp _ h.a.lt (by rw [h.gA]; simp))
  ok := h.ok
  age := h.age
  p := h.p.kept k (hp _ h.p.a.lt (by rw [h.gP]; simp)) (fun b e => hp _ (h.p.r.lt b e).2 (by rw [h.gV b e]; simp))
  m := h.m.kept k (hp _ h.m.lt (by rw [h.gM]; simp))
  k := fun x B e => by
    obtain ⟨q1, q2, q3⟩ := h.k x B e
    exact ⟨q1.kept k (hp _ q1.a.lt (by rw [q2]; simp)) (fun b e2 => hp _ (q1.r.lt b e2).2 (by rw [q3 b e2]; simp)), q2, q3⟩
  z := h.z
  gT := h.gT
  gA := h.gA
  gM := h.gM
  gP := h.gP
  gV := h.gV
  lt := fun j e => ⟨(h.lt j e).1, Nat.lt_of_lt_of_le (h.lt j e).2 k.size⟩
  ln := h.ln
theorem TrAt.then (h : TrAt w b0 L tk lp s r) (k : Below w.heap.size w w') : TrAt w' b0 L tk lp s r := h.kept (P := fun _ => True) (.of_below k) (fun _ _ _ => trivial)
theorem TrAt.base {b1 : Nat} (h : TrAt w b0 L tk lp s r) (k : b1 ≤ b0) : TrAt w b1 L tk lp s r := { h with lt := fun j e => ⟨Nat.le_trans k (h.lt j e).1, (h.lt j e).2⟩ }
/-- What a call on the tree leaves alone: all that is not the tree's; what is the tree's behind it was so ahead, or is new; the count has risen by d at most. -/
structure Step (w w' : World) (d : Nat) (L L' : Lay) : Prop where
  k : IX.Kept w w' (fun j => L.g j = .other)
  t : L'.T = L.T
  n : L'.n ≤ L.n + d
  g : ∀ j, L'.g j ≠ .other → L.g j ≠ .other ∨ w.heap.size ≤ j
theorem Step.of_below {L : Lay} (k : Below w.heap.size w w') : Step w w' 0 L L := ⟨.of_below k, rfl, Nat.le_refl _, fun j e => .inl e⟩
theorem Step.more {L L' : Lay} {d d' : Nat} (h : Step w w' d L L') (k : d ≤ d') : Step w w' d' L L' := ⟨h.k, h.t, Nat.le_trans h.n (by omega), h.g⟩
theorem keepTwo {w1 w2 : World} {L L1 : Lay} (k1 : IX.Kept w w1 (fun j => L.g j = .other)) (g1 : ∀ j, L1.g j ≠ .other → L.g j ≠ .other ∨ w.heap.size ≤ j) (k2 : IX.Kept w1 w2 (fun j => L1.g j = .other)) : IX.Kept w w2 (fun j => L.g j = .other) :=
  k1.trans' k2 fun i hi e => by
    cases q : L1.g i with
    | other => rfl
    | _ =>
      rcases g1 i (by rw [q]; simp) with h | h
      · exact absurd e h
      · omega
theorem grewTwo {w1 : World} {L L1 L2 : Lay} (hs : w.heap.size ≤ w1.heap.size) (g1 : ∀ j, L1.g j ≠ .other → L.g j ≠ .other ∨ w.heap.size ≤ j) (g2 : ∀ j, L2.g j ≠ .other → L1.g j ≠ .other ∨ w1.heap.size ≤ j) : ∀ j, L2.g j ≠ .other → L.g j ≠ .other ∨ w.heap.size ≤ j := fun j e => by
  rcases g2 j e with h | h
  · exact g1 j h
  · exact .inr (by omega)
theorem Step.trans {w1 w2 : World} {L L1 L2 : Lay} {d1 d2 : Nat} (h : Step w w1 d1 L L1) (k : Step w1 w2 d2 L1 L2) : Step w w2 (d1 + d2) L L2 :=
  ⟨keepTwo (L1 := L1) h.k h.g k.k, k.t.trans h.t, by have := h.n; have := k.n; omega, grewTwo (L1 := L1) h.k.size h.g k.g⟩
theorem Step.then {w1 : World} {L L1 : Lay} {d : Nat} (h : Step w w1 d L L1) (k : Below w1.heap.size w1 w') : Step w w' d L L1 := h.trans (.of_below k)
theorem Step.grown {L L' : Lay} {d : Nat} (h : Step w w' d L L') (t : TrAt w b0 L tk lp s r) {b1 : Nat} (hb : b1 ≤ b0) (h1 : b1 ≤ w.heap.size) : Below b1 w w' :=
  h.k.below h1 fun j hj => by
    cases q : L.g j with
    | other => rfl
    | _ => have := (t.lt j (by rw [q]; simp)).1; omega
/-- A part's blocks are not another's. -/
theorem TrAt.obj (h : TrAt w b0 L tk lp s r) {s' : Sl} (hc : AtC w' L.T (trC L s')) (k : IX.Kept w w' (· ≠ L.T)) (hl : s'.length = s.length) : TrAt w' b0 L tk lp s' r where
  c := hc
  a := k.atC h.a (fun e => by have := h.gA; rw [e, h.gT] at this; cases this)
  ok := h.ok
  age := h.age
  p := h.p.kept k (fun e => by have := h.gP; rw [e, h.gT] at this; cases this) (fun b e q => by have := h.gV b e; rw [q, h.gT] at this; cases this)
  m := h.m.kept k (fun e => by have := h.gM; rw [e, h.gT] at this; cases this)
  k := fun x B e => by
    obtain ⟨q1, q2, q3⟩ := h.k x B e
    exact ⟨q1.kept k (fun e => by rw [e, h.gT] at q2; cases q2) (fun b e2 q => by have := q3 b e2; rw [q, h.gT] at this; cases this), q2, q3⟩
  z := h.z
  gT := h.gT
  gA := h.gA
  gM := h.gM
  gP := h.gP
  gV := h.gV
  lt := fun j e => ⟨(h.lt j e).1, Nat.lt_of_lt_of_le (h.lt j e).2 k.size⟩
  ln := by rw [hl]; exact h.ln
theorem TrAt.arena (h : TrAt w b0 L tk lp s r) {tk' : List Bool} {ag' : List Nat} (ha : AtC w' L.A (arC L.A ⟨tk', ag'⟩)) (k : IX.Kept w w' (· ≠ L.A)) (ho : ArOk ⟨tk', ag'⟩) (hg : ∀ i, ag'.getD i 0 ≤ L.n + 1) (hl : tk'.length = tk.length) :
    TrAt w' b0 { L with ag := ag', n := L.n + 1 } tk' lp s r where
  c := k.atC h.c (fun e => by have := h.gT; rw [e, h.gA] at this; cases this)
  a := ha
  ok := ho
  age := hg
  p := h.p.kept k (fun e => by have := h.gP; rw [e, h.gA] at this; cases this) (fun b e q => by have := h.gV b e; rw [q, h.gA] at this; cases this)
  m := (h.m.kept k (fun e => by have := h.gM; rw [e, h.gA] at this; cases this)).more (Nat.le_succ _)
  k := fun x B e => by
    obtain ⟨q1, q2, q3⟩ := h.k x B e
    exact ⟨q1.kept k (fun e => by rw [e, h.gA] at q2; cases q2) (fun b e2 q => by have := q3 b e2; rw [q, h.gA] at this; cases this), q2, q3⟩
  z := h.z
  gT := h.gT
  gA := h.gA
  gM := h.gM
  gP := h.gP
  gV := h.gV
  lt := fun j e => ⟨(h.lt j e).1, Nat.lt_of_lt_of_le (h.lt j e).2 k.size⟩
  ln := by rw [hl]; exact h.ln
def tagAt (g : Nat → Tag) (x : Option Nat) (t : Tag) : Nat → Tag := fun j => if x = some j then t else g j
theorem tagAt_old {g : Nat → Tag} {x : Option Nat} {t : Tag} {z i : Nat} (hx : ∀ j, x = some j → g j = t ∨ z ≤ j) (hi : i < z) : tagAt g x t i = g i := by
  unfold tagAt
  split
  · rename_i e
    rcases hx i e with h | h
    · exact h.symm
    · omega
  · rfl
theorem tagAt_self {g : Nat → Tag} {x : Option Nat} {t : Tag} {j : Nat} (e : x = some j) : tagAt g x t j = t := by simp [tagAt, e]
theorem tagAt_or {g : Nat → Tag} {x : Option Nat} {t : Tag} {z : Nat} (hx : ∀ j, x = some j → g j = t ∨ z ≤ j) (ht : t ≠ .other) : ∀ j, tagAt g x t j ≠ .other → g j ≠ .other ∨ z ≤ j := fun j e => by
  unfold tagAt at e
  split at e
  · rename_i q
    rcases hx j q with h | h
    · exact .inl (by rw [h]; exact ht)
    · exact .inr h
  · exact .inl e
/-- The index of all turned. -/
theorem TrAt.places (h : TrAt w b0 L tk lp s r) {v' : Value} {lp' : List Rw} (hi : IxAt w' L.P v' lp') (f : ∀ j, v'.ownBlock = some j → L.vP.ownBlock = some j ∨ w.heap.size ≤ j) (k : IX.Kept w w' (fun j => j ≠ L.P ∧ L.vP.ownBlock ≠ some j)) (hb0 : b0 ≤ w.heap.size) :
    TrAt w' b0 { L with vP := v', g := tagAt L.g v'.ownBlock (.row none) } tk lp' s r := by
  have fx : ∀ j, v'.ownBlock = some j → L.g j = .row none ∨ w.heap.size ≤ j := fun j e => (f j e).imp (h.gV j) id
  have old : ∀ {i}, i < w.heap.size → tagAt L.g v'.ownBlock (.row none) i = L.g i := fun hi => tagAt_old fx hi
  have key : ∀ {i t}, L.g i = t → t ≠ .ix none → t ≠ .row none → i ≠ L.P ∧ L.vP.ownBlock ≠ some i := fun {i t} e n1 n2 => ⟨fun q => n1 (by rw [← e, q]; exact h.gP), fun q => n2 (by rw [← e]; exact h.gV i q)⟩
  exact {
    c := k.atC h.c (key h.gT (by simp) (by simp))
    a := k.atC h.a (key h.gA (by simp) (by simp))
    ok := h.ok
    age := h.age
    p := hi
    m := h.m.kept k (key h.gM (by simp) (by simp))
    k := fun x B e => by
      obtain ⟨q1, q2, q3⟩ := h.k x B e
      exact ⟨q1.kept k (key q2 (by simp) (by simp)) (fun b e2 => key (q3 b e2) (by simp) (by simp)), (old q1.a.lt).trans q2, fun j e2 => (old (q1.r.lt j e2).2).trans (q3 j e2)⟩
    z := h.z
    gT := (old h.c.lt).trans h.gT
    gA := (old h.a.lt).trans h.gA
    gM := (old h.m.lt).trans h.gM
    gP := (old h.p.a.lt).trans h.gP
    gV := fun j e => tagAt_self e
    lt := fun j e0 => by
      have e : tagAt _ _ _ j ≠ .other := e0
      clear e0
      unfold tagAt at e
      split at e
      · rename_i q
        exact ⟨by rcases f j q with h1 | h1; exact (h.lt j (by rw [h.gV j h1]; simp)).1; omega, (hi.r.lt j q).2⟩
      · exact ⟨(h.lt j e).1, Nat.lt_of_lt_of_le (h.lt j e).2 k.size⟩
    ln := h.ln }
/-- An index of kids turned. -/
theorem TrAt.kid (h : TrAt w b0 L tk lp s r) {x : Bs} {B : Nat} (hx : L.f x = some B) {v' : Value} {l' : List Rw} (hi : IxAt w' B v' l') (f : ∀ j, v'.ownBlock = some j → (L.V x).ownBlock = some j ∨ w.heap.size ≤ j) (k : IX.Kept w w' (fun j => j ≠ B ∧ (L.V x).ownBlock ≠ some j)) (hb0 : b0 ≤ w.heap.size) :
    TrAt w' b0 { L with V := upd L.V x v', g := tagAt L.g v'.ownBlock (.row (some x)) } tk lp s (upd r x l') := by
  obtain ⟨a1, a2, a3⟩ := h.k x B hx
  have fx : ∀ j, v'.ownBlock = some j → L.g j = .row (some x) ∨ w.heap.size ≤ j := fun j e => (f j e).imp (a3 j) id
  have old : ∀ {i}, i < w.heap.size → tagAt L.g v'.ownBlock (.row (some x)) i = L.g i := fun hi => tagAt_old fx hi
  have key : ∀ {i t}, L.g i = t → t ≠ .ix (some x) → t ≠ .row (some x) → i ≠ B ∧ (L.V x).ownBlock ≠ some i := fun {i t} e n1 n2 => ⟨fun q => n1 (by rw [← e, q]; exact a2), fun q => n2 (by rw [← e]; exact a3 i q)⟩
  exact {
    c := k.atC h.c (key h.gT (by simp) (by simp))
    a := k.atC h.a (key h.gA (by simp) (by simp))
    ok := h.ok
    age := h.age
    p := h.p.kept k (key h.gP (by simp) (by simp)) (fun b e2 => key (h.gV b e2) (by simp) (by simp))
    m := h.m.kept k (key h.gM (by simp) (by simp))
    k := fun y B' e => by
      by_cases q : y = x
      · subst q
        have : B' = B := by rw [hx] at e; cases e; rfl
        subst this
        simp only [upd_same]
        exact ⟨hi, (old a1.a.lt).trans a2, fun j e2 => tagAt_self e2⟩
      · obtain ⟨q1, q2, q3⟩ := h.k y B' e
        simp only [upd_other _ _ q]
        exact ⟨q1.kept k (key q2 (by simpa using q) (by simp)) (fun b e2 => key (q3 b e2) (by simp) (by simpa using q)), (old q1.a.lt).trans q2, fun j e2 => (old (q1.r.lt j e2).2).trans (q3 j e2)⟩
    z := fun y e => by
      have q : y ≠ x := fun q => by rw [q] at e; rw [hx] at e; cases e
      rw [upd_other _ _ q]; exact h.z y e
    gT := (old h.c.lt).trans h.gT
    gA := (old h.a.lt).trans h.gA
    gM := (old h.m.lt).trans h.gM
    gP := (old h.p.a.lt).trans h.gP
    gV := fun j e => (old (h.p.r.lt j e).2).trans (h.gV j e)
    lt := fun j e0 => by
      have e : tagAt _ _ _ j ≠ .other := e0
      clear e0
      unfold tagAt at e
      split at e
      · rename_i q
        exact ⟨by rcases f j q with h1 | h1; exact (h.lt j (by rw [a3 j h1]; simp)).1; omega, (hi.r.lt j q).2⟩
      · exact ⟨(h.lt j e).1, Nat.lt_of_lt_of_le (h.lt j e).2 k.size⟩
    ln := h.ln }
theorem TrAt.kid_step (h : TrAt w b0 L tk lp s r) {x : Bs} {B : Nat} (hx : L.f x = some B) {v' : Value} (f : ∀ j, v'.ownBlock = some j → (L.V x).ownBlock = some j ∨ w.heap.size ≤ j) (k : IX.Kept w w' (fun j => j ≠ B ∧ (L.V x).ownBlock ≠ some j)) :
    Step w w' 0 L { L with V := upd L.V x v', g := tagAt L.g v'.ownBlock (.row (some x)) } := by
  obtain ⟨a1, a2, a3⟩ := h.k x B hx
  exact ⟨k.weak fun j e => ⟨fun q => (by rw [q, a2] at e; cases e), fun q => (by rw [a3 j q] at e; cases e)⟩, rfl, Nat.le_refl _, tagAt_or (fun j e => (f j e).imp (a3 j) id) (by simp)⟩
theorem TrAt.places_step (h : TrAt w b0 L tk lp s r) {v' : Value} (f : ∀ j, v'.ownBlock = some j → L.vP.ownBlock = some j ∨ w.heap.size ≤ j) (k : IX.Kept w w' (fun j => j ≠ L.P ∧ L.vP.ownBlock ≠ some j)) :
    Step w w' 0 L { L with vP := v', g := tagAt L.g v'.ownBlock (.row none) } :=
  ⟨k.weak fun j e => ⟨fun q => (by rw [q, h.gP] at e; cases e), fun q => (by rw [h.gV j q] at e; cases e)⟩, rfl, Nat.le_refl _, tagAt_or (fun j e => (f j e).imp (h.gV j) id) (by simp)⟩
theorem TrAt.obj_step (h : TrAt w b0 L tk lp s r) (k : IX.Kept w w' (· ≠ L.T)) : Step w w' 0 L L := ⟨k.weak fun j e q => (by rw [q, h.gT] at e; cases e), rfl, Nat.le_refl _, fun j e => .inl e⟩
theorem TrAt.arena_step (h : TrAt w b0 L tk lp s r) (ag' : List Nat) (k : IX.Kept w w' (· ≠ L.A)) : Step w w' 1 L { L with ag := ag', n := L.n + 1 } := ⟨k.weak fun j e q => (by rw [q, h.gA] at e; cases e), rfl, Nat.le_refl _, fun j e => .inl e⟩
theorem TrAt.enter_step {w1 : World} (h : TrAt w b0 L tk lp s r) (hk : Below w.heap.size w w1) {x : Bs} {B : Nat} {v' : Value} (hB : w.heap.size ≤ B) (k : IX.Kept w1 w' (· ≠ L.M)) : Step w w' 1 L { L with f := upd L.f x (some B), V := upd L.V x v', g := tagAt L.g (some B) (.ix (some x)), n := L.n + 1 } :=
  ⟨(IX.Kept.of_below hk).trans' k fun j _ e q => (by rw [q, h.gM] at e; cases e), rfl, Nat.le_refl _, fun j e => by
    have e : tagAt _ _ _ j ≠ .other := e
    unfold tagAt at e
    split at e
    · rename_i q; cases q; exact .inr hB
    · exact .inl e⟩
theorem TrAt.leave_step (h : TrAt w b0 L tk lp s r) (x : Bs) (k : IX.Kept w w' (· ≠ L.M)) : Step w w' 0 L { L with f := upd L.f x none } := ⟨k.weak fun j e q => (by rw [q, h.gM] at e; cases e), rfl, Nat.le_refl _, fun j e => .inl e⟩
/-- A new index of kids, without any, entered into the map. -/
theorem TrAt.enter (h : TrAt w b0 L tk lp s r) {x : Bs} (hx : L.f x = none) {B : Nat} {v' : Value} (hB : L.g B = .other) (hB0 : b0 ≤ B) (hi : IxAt w' B v' []) (f : v'.ownBlock = none) (hm : MapAt w' L.M (L.n + 1) (upd L.f x (some B))) (k : IX.Kept w w' (· ≠ L.M)) :
    TrAt w' b0 { L with f := upd L.f x (some B), V := upd L.V x v', g := tagAt L.g (some B) (.ix (some x)), n := L.n + 1 } tk lp s r := by
  have old : ∀ {i}, L.g i ≠ .other → tagAt L.g (some B) (.ix (some x)) i = L.g i := fun {i} e => by
    unfold tagAt
    rw [if_neg]
    intro q; cases q; exact e hB
  have nm : ∀ {i t}, L.g i = t → t ≠ .mp → i ≠ L.M := fun {i t} e n1 q => n1 (by rw [← e, q]; exact h.gM)
  exact {
    c := k.atC h.c (nm h.gT (by simp))
    a := k.atC h.a (nm h.gA (by simp))
    ok := h.ok
    age := fun i => Nat.le_succ_of_le (h.age i)
    p := h.p.kept k (nm h.gP (by simp)) (fun b e2 => nm (h.gV b e2) (by simp))
    m := hm
    k := fun y B' e => by
      by_cases q : y = x
      · subst q
        have : B' = B := by have e := e; simp only [upd_same] at e; cases e; rfl
        subst this
        simp only [upd_same]
        rw [h.z y hx]
        exact ⟨hi, tagAt_self rfl, fun j e2 => by rw [f] at e2; cases e2⟩
      · have e := e
        simp only [upd_other _ _ q] at e ⊢
        obtain ⟨q1, q2, q3⟩ := h.k y B' e
        exact ⟨q1.kept k (nm q2 (by simp)) (fun b e2 => nm (q3 b e2) (by simp)), (old (by rw [q2]; simp)).trans q2, fun j e2 => (old (by rw [q3 j e2]; simp)).trans (q3 j e2)⟩
    z := fun y e => by
      by_cases q : y = x
      · subst q; exact h.z y hx
      · have e := e
        simp only [upd_other _ _ q] at e
        exact h.z y e
    gT := (old (by rw [h.gT]; simp)).trans h.gT
    gA := (old (by rw [h.gA]; simp)).trans h.gA
    gM := (old (by rw [h.gM]; simp)).trans h.gM
    gP := (old (by rw [h.gP]; simp)).trans h.gP
    gV := fun j e => (old (by rw [h.gV j e]; simp)).trans (h.gV j e)
    lt := fun j e0 => by
      have e : tagAt _ _ _ j ≠ .other := e0
      clear e0
      unfold tagAt at e
      split at e
      · rename_i q
        cases q
        exact ⟨hB0, hi.a.lt⟩
      · exact ⟨(h.lt j e).1, Nat.lt_of_lt_of_le (h.lt j e).2 k.size⟩
    ln := h.ln }
/-- An index of kids that has none, taken out of the map. -/
theorem TrAt.leave (h : TrAt w b0 L tk lp s r) {x : Bs} (hr : r x = []) (hm : MapAt w' L.M L.n (upd L.f x none)) (k : IX.Kept w w' (· ≠ L.M)) : TrAt w' b0 { L with f := upd L.f x none } tk lp s r := by
  have nm : ∀ {i t}, L.g i = t → t ≠ .mp → i ≠ L.M := fun {i t} e n1 q => n1 (by rw [← e, q]; exact h.gM)
  exact {
    c := k.atC h.c (nm h.gT (by simp))
    a := k.atC h.a (nm h.gA (by simp))
    ok := h.ok
    age := h.age
    p := h.p.kept k (nm h.gP (by simp)) (fun b e2 => nm (h.gV b e2) (by simp))
    m := hm
    k := fun y B' e => by
      have q : y ≠ x := fun q => by have e := e; rw [q] at e; simp [upd_same] at e
      have e := e
      simp only [upd_other _ _ q] at e
      obtain ⟨q1, q2, q3⟩ := h.k y B' e
      exact ⟨q1.kept k (nm q2 (by simp)) (fun b e2 => nm (q3 b e2) (by simp)), q2, q3⟩
    z := fun y e => by
      by_cases q : y = x
      · subst q; exact hr
      · have e := e
        simp only [upd_other _ _ q] at e
        exact h.z y e
    gT := h.gT
    gA := h.gA
    gM := h.gM
    gP := h.gP
    gV := h.gV
    lt := fun j e => ⟨(h.lt j e).1, Nat.lt_of_lt_of_le (h.lt j e).2 k.size⟩
    ln := h.ln }
end Go.Proofs.YtlfbjgeobibnhaaGreatDoor.TX
