/-
  PLAIN: the cells of an index; rows of texts with numbers in memory; what a call keeps of memory.
-/
import Derived.Test.YtlfbjgeobibnhaaGreatDoorQZ0
import Derived.Laws.AppendOwn
import Derived.BigQuiet
import Derived.LaidEqlPtr
import Derived.WalkMore
import Derived.Shelf.Abstract
import Derived.Laws.OwnMore
import Derived.Laws.AppendOwnNone
import Derived.OwnWalk
import Derived.Laws.CopyOwn
import Derived.Deep.RegionLaw
import Derived.Maps.AppendAt
import Derived.Lib.SliceRun
import Derived.RangeFuncBox
import Derived.StillTailTactics
namespace Go.Proofs.YtlfbjgeobibnhaaGreatDoor.IX
open Go.RowKit HL
set_option maxRecDepth 100000
set_option linter.unusedVariables false
set_option linter.unusedSimpArgs false

abbrev ptr (B : Nat) : Value := .pointer (some ⟨B, 0, none⟩)
abbrev ixC (B : Nat) (v : Value) : Array Value := #[ptr B, v]
/-- The cells of rows. -/
def rowsV (l : List Rw) : List Value := l.flatMap fun r => [str r.1, .int .i64 r.2]
theorem rowsV_nil : rowsV [] = [] := rfl
theorem rowsV_cons (r : Rw) (l : List Rw) : rowsV (r :: l) = str r.1 :: .int .i64 r.2 :: rowsV l := rfl
theorem rowsV_app (a b : List Rw) : rowsV (a ++ b) = rowsV a ++ rowsV b := by simp [rowsV]
theorem rowsV_len (l : List Rw) : (rowsV l).length = l.length * 2 := by
  induction l with
  | nil => rfl
  | cons r l ih => rw [rowsV_cons]; simp [ih]; omega
theorem rowsV_take (l : List Rw) (k : Nat) : (rowsV l).take (k * 2) = rowsV (l.take k) := by
  induction l generalizing k with
  | nil => simp [rowsV_nil]
  | cons r l ih =>
    cases k with
    | zero => simp [rowsV_nil]
    | succ k => rw [show (k + 1) * 2 = k * 2 + 1 + 1 by omega, rowsV_cons, List.take_succ_cons, List.take_succ_cons, List.take_succ_cons, rowsV_cons, ih]
theorem rowsV_drop (l : List Rw) (k : Nat) : (rowsV l).drop (k * 2) = rowsV (l.drop k) := by
  induction l generalizing k with
  | nil => simp [rowsV_nil]
  | cons r l ih =>
    cases k with
    | zero => simp
    | succ k => rw [show (k + 1) * 2 = k * 2 + 1 + 1 by omega, rowsV_cons, List.drop_succ_cons, List.drop_succ_cons, List.drop_succ_cons, ih]
theorem rowsV_at {l : List Rw} {i : Nat} {r : Rw} (h : l[i]? = some r) : (rowsV l)[i * 2]? = some (str r.1) ∧ (rowsV l)[i * 2 + 1]? = some (.int .i64 r.2) := by
  induction l generalizing i with
  | nil => simp at h
  | cons x l ih =>
    cases i with
    | zero => simp at h; subst h; simp [rowsV_cons]
    | succ i =>
      simp at h
      rw [show (i + 1) * 2 = i * 2 + 1 + 1 by omega, show i * 2 + 1 + 1 + 1 = (i * 2 + 1) + 1 + 1 by omega, rowsV_cons]
      simpa using ih h
theorem rowsV_one (l : List Rw) : ∀ u ∈ rowsV l, u.oneCell' = true := by
  intro u hu
  obtain ⟨r, _, hr⟩ := List.mem_flatMap.1 hu
  simp at hr
  rcases hr with rfl | rfl <;> rfl

/-- The cells behind A, below block B, are the rows l. -/
def RdR (w : World) (B : Nat) (A : Option Addr) (l : List Rw) : Prop := l = [] ∨ ∃ b off, A = some ⟨b, off, none⟩ ∧ b < B ∧ ∀ j x, l[j]? = some x → w.cell? ⟨b, off + j * 2, none⟩ = some (str x.1) ∧ w.cell? ⟨b, off + j * 2 + 1, none⟩ = some (.int .i64 x.2)
theorem RdR.at_ {w : World} {B : Nat} {A : Option Addr} {l : List Rw} (h : RdR w B A l) (h0 : 0 < l.length) : ∃ b off, A = some ⟨b, off, none⟩ ∧ b < B ∧ ∀ j x, l[j]? = some x → w.cell? ⟨b, off + j * 2, none⟩ = some (str x.1) ∧ w.cell? ⟨b, off + j * 2 + 1, none⟩ = some (.int .i64 x.2) := by
  rcases h with rfl | h
  · simp at h0
  · exact h
theorem RdR.below {w w' : World} {B : Nat} {A : Option Addr} {l : List Rw} (h : RdR w B A l) (k : Below B w w') : RdR w' B A l := by
  rcases h with h | ⟨b, off, e, hb, hc⟩
  · exact .inl h
  · exact .inr ⟨b, off, e, hb, fun j x hx => ⟨(k.cell (p := ⟨b, _, none⟩) hb).trans (hc j x hx).1, (k.cell (p := ⟨b, _, none⟩) hb).trans (hc j x hx).2⟩⟩
theorem RdR.more {w : World} {B B' : Nat} {A : Option Addr} {l : List Rw} (h : RdR w B A l) (k : B ≤ B') : RdR w B' A l := by
  rcases h with h | ⟨b, off, e, hb, hc⟩
  · exact .inl h
  · exact .inr ⟨b, off, e, by omega, hc⟩
/-- A row of rows of one's own, in blocks from base on. -/
def OwnP (w : World) (base : Nat) (v : Value) (l : List Rw) : Prop := w.ownsRow base 96 2 v l.length (rowsV l)
theorem OwnP.lt {w : World} {base : Nat} {v : Value} {l : List Rw} (h : OwnP w base v l) : ∀ k, v.ownBlock = some k → base ≤ k ∧ k < w.heap.size := World.ownsRow.lt (show w.ownsRow _ _ _ _ _ _ from h)
theorem OwnP.nil_ (w : World) (base : Nat) : OwnP w base (.slice none 0 0) [] := ⟨rfl, .inl ⟨rfl, rfl⟩⟩
theorem OwnP.form {w : World} {base : Nat} {v : Value} {l : List Rw} (h : OwnP w base v l) : ∃ A c, v = .slice A l.length c ∧ RdR w w.heap.size A l ∧ l.length ≤ c := by
  have hlt := h.lt
  rcases h.2 with ⟨rfl, e⟩ | ⟨g, cap, cur, rfl, hg, hh, hn, hc, hs, ht⟩
  · rw [e]
    exact ⟨none, 0, rfl, .inl (List.eq_nil_of_length_eq_zero e), by omega⟩
  · refine ⟨_, cap, rfl, .inr ⟨g, 0, rfl, (hlt g rfl).2, fun j x hx => ?_⟩, hn⟩
    have q := rowsV_at hx
    have hj : j < l.length := (List.getElem?_eq_some_iff.1 hx).1
    have key : ∀ i u, (rowsV l)[i]? = some u → w.cell? ⟨g, 0 + i, none⟩ = some u := fun i u hu => by
      rw [Nat.zero_add, cell_of_row w g i cur _ (0, 0) hh]
      rw [← ht, List.getElem?_take] at hu
      split at hu
      · simpa using hu
      · cases hu
    exact ⟨key _ _ q.1, by have := key _ _ q.2; rw [← Nat.add_assoc] at this; exact this⟩
theorem OwnP.base {w : World} {base base' : Nat} {v : Value} {l : List Rw} (h : OwnP w base v l) (hb : base' ≤ base) : OwnP w base' v l := by
  refine ⟨h.1, ?_⟩
  rcases h.2 with h2 | ⟨g, cap, cur, e, hg, r⟩
  · exact .inl h2
  · exact .inr ⟨g, cap, cur, e, Nat.le_trans hb hg, r⟩

/-- All blocks that P names are as they were. -/
structure Kept (w w' : World) (P : Nat → Prop) : Prop where
  os : w'.os = w.os
  tape : w'.tape = w.tape
  output : w'.output = w.output
  size : w.heap.size ≤ w'.heap.size
  block : ∀ k, k < w.heap.size → P k → w'.heap[k]? = w.heap[k]?
theorem Kept.refl (w : World) (P : Nat → Prop) : Kept w w P := ⟨rfl, rfl, rfl, Nat.le_refl _, fun _ _ _ => rfl⟩
theorem Kept.of_below {w w' : World} {P : Nat → Prop} (h : Below w.heap.size w w') : Kept w w' P := ⟨h.os, h.tape, h.output, h.size, fun k hk _ => h.block k hk⟩
theorem Kept.weak {w w' : World} {P Q : Nat → Prop} (h : Kept w w' P) (hq : ∀ k, Q k → P k) : Kept w w' Q := ⟨h.os, h.tape, h.output, h.size, fun k hk q => h.block k hk (hq k q)⟩
theorem Kept.trans {a b c : World} {P : Nat → Prop} (h : Kept a b P) (k : Kept b c P) : Kept a c P :=
  ⟨k.os.trans h.os, k.tape.trans h.tape, k.output.trans h.output, Nat.le_trans h.size k.size, fun i hi p => (k.block i (Nat.lt_of_lt_of_le hi h.size) p).trans (h.block i hi p)⟩
/-- A later call may turn, besides, what was made since. -/
theorem Kept.trans' {a b c : World} {P Q : Nat → Prop} (h : Kept a b P) (k : Kept b c Q) (hq : ∀ i, i < a.heap.size → P i → Q i) : Kept a c P :=
  ⟨k.os.trans h.os, k.tape.trans h.tape, k.output.trans h.output, Nat.le_trans h.size k.size, fun i hi p => (k.block i (Nat.lt_of_lt_of_le hi h.size) (hq i hi p)).trans (h.block i hi p)⟩
theorem Kept.below {w w' : World} {P : Nat → Prop} {B : Nat} (h : Kept w w' P) (hB : B ≤ w.heap.size) (hp : ∀ k, k < B → P k) : Below B w w' :=
  ⟨h.os, h.tape, h.output, h.size, fun k hk => h.block k (by omega) (hp k hk)⟩
theorem Kept.cell {w w' : World} {P : Nat → Prop} (h : Kept w w' P) {b o : Nat} {sp : _} (hb : b < w.heap.size) (hp : P b) : w'.cell? ⟨b, o, sp⟩ = w.cell? ⟨b, o, sp⟩ := World.cell?_of_block (h.block b hb hp)
theorem Kept.frozen {w w' : World} {P : Nat → Prop} (h : Kept w w' P) {b o : Nat} {sp : _} (hb : b < w.heap.size) (hp : P b) : w'.frozen? ⟨b, o, sp⟩ = w.frozen? ⟨b, o, sp⟩ := World.frozen?_of_block (h.block b hb hp)
theorem Kept.atC {W W1 : World} {B : Nat} {C : Array Value} {P : Nat → Prop} (k : Kept W W1 P) (h : AtC W B C) (hp : P B) : AtC W1 B C :=
  ⟨Nat.lt_of_lt_of_le h.lt k.size, fun i => by rw [k.cell h.lt hp]; exact h.c i, fun i => by rw [k.frozen h.lt hp]; exact h.f i⟩
theorem Kept.set {w W : World} {P : Nat → Prop} (h : Kept w W P) {B i : Nat} (hB : B < w.heap.size → ¬ P B) (v : Value) : Kept w (W.setCell ⟨B, i, none⟩ v) P := by
  refine ⟨h.os, h.tape, h.output, by simpa [World.setCell] using h.size, fun k hk p => ?_⟩
  rw [Below.heap_setCell _ _ _ _ (fun e => by have e2 : k = B := e; subst e2; exact hB hk p)]
  exact h.block k hk p
theorem Kept.alloc {w W : World} {P : Nat → Prop} (h : Kept w W P) (o : Obj) : Kept w (W.alloc o) P :=
  ⟨h.os, h.tape, h.output, Nat.le_trans h.size (by simp), fun k hk p => (Below.heap_alloc W o k (Nat.lt_of_lt_of_le hk h.size)).trans (h.block k hk p)⟩
theorem Kept.grown {w W W' : World} {P : Nat → Prop} (h : Kept w W P) {r : Option Nat} (g : W.grownBy W' r) (hr : ∀ k, r = some k → k < w.heap.size → ¬ P k) : Kept w W' P :=
  ⟨g.os.trans h.os, g.tape.trans h.tape, g.output.trans h.output, Nat.le_trans h.size g.size, fun k hk p => (g.block k (Nat.lt_of_lt_of_le hk h.size) (fun e => hr k e.symm hk p)).trans (h.block k hk p)⟩
theorem Kept.then {w W W' : World} {P : Nat → Prop} (h : Kept w W P) (b : Below W.heap.size W W') : Kept w W' P := h.trans (.of_below b)
theorem ownsRow_kept {w w' : World} {P : Nat → Prop} {base : Nat} {e : TypeId} {size n : Nat} {v : Value} {xs : List Value} (h : w.ownsRow base e size v n xs) (k : Kept w w' P) (hp : ∀ b, v.ownBlock = some b → P b) : w'.ownsRow base e size v n xs := by
  have hlt := h.lt
  refine ⟨h.1, ?_⟩
  rcases h.2 with h2 | ⟨g, cap, cur, rfl, hg, hh, r⟩
  · exact .inl h2
  · exact .inr ⟨g, cap, cur, rfl, hg, by rw [k.block g (hlt g rfl).2 (hp g rfl)]; exact hh, r⟩

/-- An index at block B, its rows in v. -/
structure IxAt (w : World) (B : Nat) (v : Value) (l : List Rw) : Prop where
  a : AtC w B (ixC B v)
  r : OwnP w 0 v l
  ne : v.ownBlock ≠ some B
  up : Up l
theorem IxAt.kept {w w' : World} {P : Nat → Prop} {B : Nat} {v : Value} {l : List Rw} (h : IxAt w B v l) (k : Kept w w' P) (h1 : P B) (h2 : ∀ b, v.ownBlock = some b → P b) : IxAt w' B v l :=
  ⟨k.atC h.a h1, ownsRow_kept h.r k h2, h.ne, h.up⟩
theorem IxAt.then {w w' : World} {B : Nat} {v : Value} {l : List Rw} (h : IxAt w B v l) (k : Below w.heap.size w w') : IxAt w' B v l := h.kept (P := fun _ => True) (.of_below k) trivial (fun _ _ => trivial)
theorem IxAt.rows {w : World} {B : Nat} {v : Value} {l : List Rw} (h : IxAt w B v l) : ∃ A c, v = .slice A l.length c ∧ RdR w w.heap.size A l ∧ l.length ≤ c := h.r.form
end Go.Proofs.YtlfbjgeobibnhaaGreatDoor.IX
/-
  WALKS: made, held, Many, the comparing closure, the library's binary search, seek, Place of an index.
-/
namespace Go.Proofs.YtlfbjgeobibnhaaGreatDoor.IX
open Go.RowKit HL
set_option maxRecDepth 100000
set_option linter.unusedVariables false
set_option linter.unusedSimpArgs false

theorem index_info : Tryz.prog.info? 99 = some (Tryz.prog.info? 99).get! := by kernel_rfl
theorem made_any (B : Nat) (v : Value) (w : World) (hA : AtC w B (ixC B v)) : Calls Tryz.prog 66 #[ptr B] w fun e w' => e = .returned (.bool true) ∧ w = w' := by
  have c0 : w.cell? ⟨B, 0, none⟩ = some (ptr B) := hA.c 0
  have HE := fun W => run_eql_ptr_same (P := Tryz.prog) W (tp := 50) ⟨B, 0, none⟩ Tryz.underlying50 index_info
  clear hA
  go_enter Tryz.func66, Tryz.ntmps66
  go_wp2
  go_ret
  exact ⟨rfl, rfl⟩
theorem held_any (B : Nat) (v : Value) (w : World) (hA : AtC w B (ixC B v)) : Calls Tryz.prog 63 #[ptr B] w fun e w' => e = .returned v ∧ w = w' := by
  have c1 : w.cell? ⟨B, 1, none⟩ = some v := hA.c 1
  have C := Lib.hid (made_any B v w hA)
  clear hA
  go_enter Tryz.func63, Tryz.ntmps63
  go_wp2_with (go_at_call 66; ((with_reducible refine C.out.mono ?_); rintro e w1 ⟨rfl, rfl⟩))
  go_ret
  exact ⟨rfl, rfl⟩
theorem many_any (B : Nat) (v : Value) (l : List Rw) (w : World) (hA : IxAt w B v l) : Calls Tryz.prog 56 #[ptr B] w fun e w' => e = .returned (.int .i64 l.length) ∧ w = w' := by
  obtain ⟨A, c, rfl, _, _⟩ := hA.rows
  have C := Lib.hid (held_any B _ w hA.a)
  clear hA
  go_enter Tryz.func56, Tryz.ntmps56
  go_wp2_with (go_at_call 63; ((with_reducible refine C.out.mono ?_); rintro e w1 ⟨rfl, rfl⟩))
  go_ret
  exact ⟨rfl, rfl⟩
theorem cmp_neg {a h : Bs} : Lib.compareBytes a h < 0 ↔ a < h := by
  rcases cmp_cases a h with ⟨e, q⟩ | ⟨e, q⟩ | ⟨e, q⟩
  · rw [e]; exact ⟨fun _ => q, fun _ => by omega⟩
  · rw [e]; exact ⟨fun x => by omega, fun x => absurd (q ▸ x) (lt_irrefl _)⟩
  · rw [e]; exact ⟨fun x => by omega, fun x => absurd x (lt_asymm q)⟩
theorem has_eq {l : List Rw} (u : Up l) {h : Bs} (hp : plc l h < l.length) : hasB l h = (Lib.compareBytes l[plc l h].1 h == 0) := by
  rw [Bool.eq_iff_iff, has_at_iff u hp, beq_iff_eq, cmp_eq]
/-! ## The comparing closure, and the library's search -/
theorem cmp_any (a h : Bs) (n : Int) (w : World) : Calls Tryz.prog 79 #[.agg #[str a, .int .i64 n], str h] w fun e w' => e = .returned (.int .i64 (Lib.compareBytes a h)) ∧ Below w.heap.size w w' := by
  go_enter Tryz.func79, Tryz.ntmps79
  go_wp2_with (go_at_call 80; ((with_reducible refine (compare_any _ _ _).mono ?_); rintro e w1 ⟨rfl, rfl⟩))
  go_ret
  exact ⟨rfl, (Below.refl _ _).alloc (Nat.le_refl _) _⟩
abbrev cmpF : Value := .func (.func 79) #[] #[]
theorem shr1 (a : Nat) (h : a < 9223372036854775808) : wrap64 ((IntKind.u64.wrap (a : Int)) / 2) = ((a / 2 : Nat) : Int) := by
  simp [IntKind.wrap, IntKind.bits, IntKind.signed, wrap64]; omega
set_option maxHeartbeats 2000000 in
theorem search_any (A : Option Addr) (c : Nat) (l : List Rw) (h : Bs) (w : World) (hr : RdR w w.heap.size A l) (hn : l.length ≤ 1000000) (u : Up l) :
    Calls Tryz.prog 78 #[.slice A l.length c, str h, cmpF] w fun e w' => e = .returned (.tuple #[.int .i64 (plc l h), .bool (hasB l h)]) ∧ Below w.heap.size w w' := by
  have eg := enters_of Tryz.func79 (by kernel_rfl) rfl
  have HR := Lib.hid hr
  have HU := Lib.hid u
  have hb0 : Below w.heap.size w w := Below.refl _ _
  have hpl := plc_le l h
  clear hr u
  go_enter Tryz.func78, Tryz.ntmps78
  go_wp2
  go_loopw [9, 10] (fun i j wr => ∃ a b : Nat, i = .int .i64 a ∧ j = .int .i64 b ∧ a ≤ plc l h ∧ plc l h ≤ b ∧ b ≤ l.length ∧ Below w.heap.size w wr) (fun i j _ => (intOf j).toNat - (intOf i).toNat)
  case atStart => exact ⟨0, l.length, rfl, rfl, Nat.zero_le _, hpl, Nat.le_refl _, hb0⟩
  case round =>
    obtain ⟨a, b, rfl, rfl, h1, h2, h3, hb⟩ := hrel
    by_cases hlt : a < b
    · obtain ⟨bb, off, rfl, hbb, hcc⟩ := (HR.out.below (hb.mono (Nat.le_refl _))).at_ (by omega)
      have hm1 : a ≤ (a + b) / 2 := by omega
      have hm2 : (a + b) / 2 < b := by omega
      have hml : (a + b) / 2 < l.length := by omega
      obtain ⟨q1, q2⟩ := hcc _ _ (List.getElem?_eq_getElem hml)
      have HI := Lib.hid (plc_iff HU.out h _ hml)
      have i0 : IntKind.i64.wrap ((a : Int) + (b : Int)) = ((a + b : Nat) : Int) := IntWalk.i64_in _ (by omega)
      have i1 : (a : Int) < (b : Int) := by omega
      clear hcc
      generalize l[(a + b) / 2] = r at *
      have C := Lib.hid (fun W => cmp_any r.1 h r.2 W)
      by_cases hc : Lib.compareBytes r.1 h < 0
      · have hlt2 : (a + b) / 2 < plc l h := HI.out.1 (cmp_neg.1 hc)
        generalize Lib.compareBytes r.1 h = z at *
        go_wp2_with (go_at_call 79; ((with_reducible refine (C.out _).mono ?_); rintro e w1 ⟨rfl, k1⟩; replace hb := bThen hb k1))
        go_roundw
        case rel => exact ⟨(a + b) / 2 + 1, b, by go_num, rfl, by omega, by omega, by omega, hb⟩
        case measure => simp [intOf]; omega
      · have hge : plc l h ≤ (a + b) / 2 := by have := mt HI.out.2 (fun q => hc (cmp_neg.2 q)); omega
        generalize Lib.compareBytes r.1 h = z at *
        go_wp2_with (go_at_call 79; ((with_reducible refine (C.out _).mono ?_); rintro e w1 ⟨rfl, k1⟩; replace hb := bThen hb k1))
        go_roundw
        case rel => exact ⟨a, (a + b) / 2, rfl, by go_num, by omega, by omega, by omega, hb⟩
        case measure => simp [intOf]; omega
    · obtain rfl : a = plc l h := by omega
      obtain rfl : b = plc l h := by omega
      clear h1 h2 h3 hlt
      by_cases hp : plc l h < l.length
      · obtain ⟨bb, off, rfl, hbb, hcc⟩ := (HR.out.below (hb.mono (Nat.le_refl _))).at_ (by omega)
        obtain ⟨q1, q2⟩ := hcc _ _ (List.getElem?_eq_getElem hp)
        have HE := Lib.hid (has_eq HU.out hp)
        clear hcc
        have i1 : (plc l h : Int) < l.length := by omega
        generalize l[plc l h] = r at *
        have C := Lib.hid (fun W => cmp_any r.1 h r.2 W)
        generalize Lib.compareBytes r.1 h = z at *
        go_wp2_with (go_at_call 79; ((with_reducible refine (C.out _).mono ?_); rintro e w1 ⟨rfl, k1⟩; replace hb := bThen hb k1))
        go_ret2
        exact ⟨by rw [HE.out]; rfl, hb⟩
      · have HE := Lib.hid (has_none HU.out hp)
        have i1 : ¬ (plc l h : Int) < l.length := by omega
        go_wp2
        go_ret2
        exact ⟨by rw [HE.out]; rfl, hb⟩
theorem seek_any (B : Nat) (v : Value) (l : List Rw) (h : Bs) (w : World) (hA : IxAt w B v l) (hn : l.length ≤ 1000000) : Calls Tryz.prog 69 #[ptr B, str h] w fun e w' => e = .returned (.tuple #[.int .i64 (plc l h), .bool (hasB l h)]) ∧ Below w.heap.size w w' := by
  obtain ⟨A, c, rfl, rd, _⟩ := hA.rows
  have C := Lib.hid (held_any B _ w hA.a)
  have CS := Lib.hid (search_any A c l h w rd hn hA.up)
  clear hA rd
  go_enter Tryz.func69, Tryz.ntmps69
  go_wp2_with (first
    | (go_at_call 63; ((with_reducible refine C.out.mono ?_); rintro e w1 ⟨rfl, rfl⟩))
    | (go_at_call 78; ((with_reducible refine CS.out.mono ?_); rintro e w1 ⟨rfl, k1⟩)))
  go_ret2
  exact ⟨rfl, k1⟩
theorem place_any (B : Nat) (v : Value) (l : List Rw) (h : Bs) (w : World) (hA : IxAt w B v l) (hn : l.length ≤ 1000000) : Calls Tryz.prog 64 #[ptr B, str h] w fun e w' => e = .returned (.int .i64 (plc l h)) ∧ Below w.heap.size w w' := by
  have C := Lib.hid (seek_any B v l h w hA hn)
  clear hA
  go_enter Tryz.func64, Tryz.ntmps64
  go_wp2_with (go_at_call 69; ((with_reducible refine C.out.mono ?_); rintro e w1 ⟨rfl, k1⟩))
  go_ret
  exact ⟨rfl, k1⟩
theorem find_any (B : Nat) (v : Value) (l : List Rw) (h : Bs) (w : World) (hA : IxAt w B v l) (hn : l.length ≤ 1000000) : Calls Tryz.prog 55 #[ptr B, str h] w fun e w' => e = .returned (.tuple #[.int .i64 (numOf l h), .bool (hasB l h)]) ∧ Below w.heap.size w w' := by
  have C := Lib.hid (seek_any B v l h w hA hn)
  have HA := Lib.hid hA
  cases k : hasB l h with
  | false =>
    have HN := Lib.hid (numOf_f k)
    rw [k] at C
    generalize numOf l h = m at *
    clear hA k
    go_enter Tryz.func55, Tryz.ntmps55
    go_wp2_with (go_at_call 69; ((with_reducible refine C.out.mono ?_); rintro e w1 ⟨rfl, k1⟩))
    go_ret2
    exact ⟨by rw [HN.out]; rfl, k1⟩
  | true =>
    obtain ⟨hp, he⟩ := has_at hA.up k
    have HN := Lib.hid (numOf_t k hp)
    obtain ⟨A, cc, rfl, rd, _⟩ := hA.rows
    have HR := Lib.hid rd
    rw [k] at C
    have i1 : (plc l h : Int) < l.length := by omega
    obtain ⟨bb, off, rfl, hbb, hcc⟩ := rd.at_ (by omega)
    have Q := Lib.hid (hcc _ _ (List.getElem?_eq_getElem hp))
    generalize l[plc l h] = r at *
    generalize numOf l h = m at *
    generalize plc l h = p at *
    clear hA k rd hcc HR
    go_enter Tryz.func55, Tryz.ntmps55
    go_wp2_with (go_at_call 69; ((with_reducible refine C.out.mono ?_); rintro e w1 ⟨rfl, k1⟩; have c1 := (HA.out.then k1).a.c 1; simp only [List.getElem?_toArray, List.getElem?_cons_succ, List.getElem?_cons_zero] at c1; have q2 := (k1.cell (p := ⟨bb, off + p * 2 + 1, none⟩) hbb).trans Q.out.2))
    go_ret2
    exact ⟨by rw [HN.out]; rfl, k1⟩
end Go.Proofs.YtlfbjgeobibnhaaGreatDoor.IX
/-
  ROWS OF ANY KIND OF ELEMENT in memory: what reads as a list; a row of one's own; append, a cut, a literal, a copy within the row, a clear: laws for the walk.
-/
namespace Go.Proofs.YtlfbjgeobibnhaaGreatDoor.IX
open Go.RowKit HL
set_option maxRecDepth 100000
set_option linter.unusedVariables false
set_option linter.unusedSimpArgs false

/-- A kind of element: its type, its slices' type, its cells. -/
structure El (α : Type) where
  T : TypeId
  e : TypeId
  size : Nat
  bytes : Nat
  z : Value
  i : TypeInfo
  enc : α → List Value
  el : Tryz.prog.elem T = e
  ht : Tryz.prog.underlying T = some (.slice e)
  hi : Tryz.prog.info? e = some i
  hz : i.zero = some z
  hs : i.size = size
  hb : i.bytes = bytes
  hzs : z.cells.size = size
  pos : 0 < size
  len : ∀ x, (enc x).length = size
  one : ∀ x, ∀ u ∈ enc x, u.oneCell' = true
  small : bytes ≤ 1000
variable {α : Type}
theorem addr0 (a : Addr) : a.add 0 = a := by unfold Addr.add; simp
theorem addr_lit (b o j : Nat) : (⟨b, o, none⟩ : Addr).add j = ⟨b, o + j, none⟩ := by unfold Addr.add; split <;> simp_all
/-- The cells of a list. -/
def cellsK (K : El α) (l : List α) : List Value := l.flatMap K.enc
theorem cellsK_cons (K : El α) (x : α) (l : List α) : cellsK K (x :: l) = K.enc x ++ cellsK K l := rfl
theorem cellsK_app (K : El α) (a b : List α) : cellsK K (a ++ b) = cellsK K a ++ cellsK K b := by simp [cellsK]
theorem cellsK_len (K : El α) (l : List α) : (cellsK K l).length = l.length * K.size := by
  induction l with
  | nil => simp [cellsK]
  | cons x l ih => rw [cellsK_cons, List.length_append, K.len, ih, List.length_cons, Nat.add_mul]; omega
theorem cellsK_take (K : El α) (l : List α) (k : Nat) : (cellsK K l).take (k * K.size) = cellsK K (l.take k) := by
  induction l generalizing k with
  | nil => simp [cellsK]
  | cons x l ih =>
    cases k with
    | zero => simp [cellsK]
    | succ k =>
      rw [cellsK_cons, List.take_succ_cons, cellsK_cons, ← ih k, List.take_append, K.len, List.take_of_length_le (by rw [K.len, Nat.add_mul]; omega)]
      congr 2
      rw [Nat.add_mul]; omega
theorem cellsK_drop (K : El α) (l : List α) (k : Nat) : (cellsK K l).drop (k * K.size) = cellsK K (l.drop k) := by
  have h1 : cellsK K l = cellsK K (l.take k) ++ cellsK K (l.drop k) := by rw [← cellsK_app, List.take_append_drop]
  by_cases h : k ≤ l.length
  · rw [h1]
    have e : (cellsK K (l.take k)).length = k * K.size := by rw [cellsK_len, List.length_take, Nat.min_eq_left h]
    rw [List.drop_append, e, Nat.sub_self, List.drop_zero, List.drop_of_length_le (by omega), List.nil_append]
  · have h2 : l.drop k = [] := List.drop_eq_nil_of_le (by omega)
    rw [h2, List.drop_of_length_le (by rw [cellsK_len]; exact Nat.mul_le_mul_right _ (by omega))]; rfl
theorem cellsK_at (K : El α) {l : List α} {j : Nat} {x : α} (h : l[j]? = some x) {i : Nat} {u : Value} (hu : (K.enc x)[i]? = some u) : (cellsK K l)[j * K.size + i]? = some u := by
  have hj : j < l.length := (List.getElem?_eq_some_iff.1 h).1
  have hi : i < K.size := by have := (List.getElem?_eq_some_iff.1 hu).1; rwa [K.len] at this
  have e : l.drop j = x :: l.drop (j + 1) := by rw [List.drop_eq_getElem_cons hj, (List.getElem?_eq_some_iff.1 h).2]
  rw [← List.getElem?_drop, cellsK_drop, e, cellsK_cons, List.getElem?_append_left (by rw [K.len]; exact hi)]
  exact hu
theorem cellsK_inv (K : El α) {l : List α} {m : Nat} {u : Value} (h : (cellsK K l)[m]? = some u) : ∃ j i x, m = j * K.size + i ∧ l[j]? = some x ∧ (K.enc x)[i]? = some u := by
  induction l generalizing m with
  | nil => simp [cellsK] at h
  | cons x l ih =>
    rw [cellsK_cons] at h
    by_cases hm : m < (K.enc x).length
    · rw [List.getElem?_append_left hm] at h
      exact ⟨0, m, x, by simp, rfl, h⟩
    · rw [List.getElem?_append_right (by omega), K.len] at h
      obtain ⟨j, i, y, e, h1, h2⟩ := ih h
      rw [K.len] at hm
      exact ⟨j + 1, i, y, by rw [Nat.add_mul]; omega, by simpa using h1, h2⟩
theorem cellsK_one (K : El α) (l : List α) : ∀ u ∈ cellsK K l, u.oneCell' = true := by
  intro u hu
  obtain ⟨x, _, hx⟩ := List.mem_flatMap.1 hu
  exact K.one x u hx
/-- The cells behind A, below block B, read as l. -/
def RdK (K : El α) (w : World) (B : Nat) (A : Option Addr) (l : List α) : Prop :=
  l = [] ∨ ∃ b off, A = some ⟨b, off, none⟩ ∧ b < B ∧ ∀ m u, (cellsK K l)[m]? = some u → w.cell? ⟨b, off + m, none⟩ = some u
theorem RdK.below {K : El α} {w w' : World} {B : Nat} {A : Option Addr} {l : List α} (h : RdK K w B A l) (k : Below B w w') : RdK K w' B A l := by
  rcases h with h | ⟨b, off, e, hb, hc⟩
  · exact .inl h
  · exact .inr ⟨b, off, e, hb, fun m u hu => (k.cell (p := ⟨b, _, none⟩) hb).trans (hc m u hu)⟩
theorem RdK.more {K : El α} {w : World} {B B' : Nat} {A : Option Addr} {l : List α} (h : RdK K w B A l) (k : B ≤ B') : RdK K w B' A l := by
  rcases h with h | ⟨b, off, e, hb, hc⟩
  · exact .inl h
  · exact .inr ⟨b, off, e, by omega, hc⟩
theorem RdK.kept {K : El α} {w w' : World} {B : Nat} {A : Option Addr} {l : List α} {P : Nat → Prop} (h : RdK K w B A l) (k : Kept w w' P) (hB : B ≤ w.heap.size) (hp : ∀ a, A = some a → P a.block) : RdK K w' B A l := by
  rcases h with h | ⟨b, off, rfl, hb, hc⟩
  · exact .inl h
  · exact .inr ⟨b, off, rfl, hb, fun m u hu => (k.cell (Nat.lt_of_lt_of_le hb hB) (hp _ rfl)).trans (hc m u hu)⟩
/-- A row of one's own. -/
def OwnK (K : El α) (w : World) (base : Nat) (v : Value) (l : List α) : Prop := w.ownsRow base K.e K.size v l.length (cellsK K l)
theorem OwnK.lt {K : El α} {w : World} {base : Nat} {v : Value} {l : List α} (h : OwnK K w base v l) : ∀ k, v.ownBlock = some k → base ≤ k ∧ k < w.heap.size := World.ownsRow.lt (show w.ownsRow _ _ _ _ _ _ from h)
theorem OwnK.nil_ (K : El α) (w : World) (base : Nat) : OwnK K w base (.slice none 0 0) [] := ⟨by simp [cellsK], .inl ⟨rfl, rfl⟩⟩
theorem OwnK.form {K : El α} {w : World} {base : Nat} {v : Value} {l : List α} (h : OwnK K w base v l) : ∃ A c, v = .slice A l.length c ∧ RdK K w w.heap.size A l ∧ l.length ≤ c ∧ c ≤ maxLen := by
  have hlt := h.lt
  rcases h.2 with ⟨rfl, e⟩ | ⟨g, cap, cur, rfl, hg, hh, hn, hc, hs, ht⟩
  · rw [e]
    exact ⟨none, 0, rfl, .inl (List.eq_nil_of_length_eq_zero e), by omega, by unfold maxLen; omega⟩
  · refine ⟨_, cap, rfl, .inr ⟨g, 0, rfl, (hlt g rfl).2, fun m u hu => ?_⟩, hn, hc⟩
    rw [Nat.zero_add, cell_of_row w g m cur _ (0, 0) hh]
    rw [← ht, List.getElem?_take] at hu
    split at hu
    · simpa using hu
    · cases hu
theorem OwnK.base {K : El α} {w : World} {base base' : Nat} {v : Value} {l : List α} (h : OwnK K w base v l) (hb : base' ≤ base) : OwnK K w base' v l := by
  refine ⟨h.1, ?_⟩
  rcases h.2 with h2 | ⟨g, cap, cur, e, hg, r⟩
  · exact .inl h2
  · exact .inr ⟨g, cap, cur, e, Nat.le_trans hb hg, r⟩
theorem OwnK.up {K : El α} {w : World} {base base' : Nat} {v : Value} {l : List α} (h : OwnK K w base v l) (hb : ∀ k, v.ownBlock = some k → base' ≤ k) : OwnK K w base' v l := by
  refine ⟨h.1, ?_⟩
  rcases h.2 with h2 | ⟨g, cap, cur, rfl, hg, r⟩
  · exact .inl h2
  · exact .inr ⟨g, cap, cur, rfl, hb g rfl, r⟩
theorem OwnK.kept {K : El α} {w w' : World} {base : Nat} {v : Value} {l : List α} {P : Nat → Prop} (h : OwnK K w base v l) (k : Kept w w' P) (hp : ∀ b, v.ownBlock = some b → P b) : OwnK K w' base v l := ownsRow_kept h k hp
theorem OwnK.below {K : El α} {w w' : World} {base : Nat} {v : Value} {l : List α} (h : OwnK K w base v l) (k : Below w.heap.size w w') : OwnK K w' base v l := h.kept (P := fun _ => True) (.of_below k) (fun _ _ => trivial)
theorem OwnK.lit {K : El α} (w : World) (base : Nat) (hb : base ≤ w.heap.size) : OwnK K (w.alloc (.cells #[] K.e)) base (.slice (some ⟨w.heap.size, 0, none⟩) 0 0) [] := by
  have := World.ownsRow_lit (e := K.e) (size := K.size) w #[] 0 hb (Nat.zero_le _) (by simp)
  exact this
theorem RdK.lit {K : El α} (w : World) (x : α) (C : Array Value) (hC : C.toList = K.enc x) (T : TypeId) : RdK K (w.alloc (.cells C T)) (w.heap.size + 1) (some ⟨w.heap.size, 0, none⟩) [x] := by
  refine .inr ⟨w.heap.size, 0, rfl, by omega, fun m u hu => ?_⟩
  have hu : (K.enc x)[m]? = some u := by simpa [cellsK] using hu
  rw [World.cell?_alloc_at _ _ _ _ rfl, Nat.zero_add, ← Array.getElem?_toList, hC]
  exact hu
/-! ## append(own, xs...) -/
theorem run_spreadK_none {P : Program} (t ty e : TypeId) (i : TypeInfo) (ht : P.underlying t = some (.slice e)) (hi : P.info? e = some i) {w : World} {base size : Nat} {v : Value} {n : Nat} {xs : List Value} (hown : w.ownsRow base e size v n xs) (c : Nat) :
    (Builtin.append_ #[t, t] ty #[v, .slice none 0 c]).run P w = .ok v w := by
  cases hown.2 with
  | inl q =>
    obtain ⟨e1, e2⟩ := q
    rw [e1]
    simp [Builtin.append_, run_underlying ht, sizeOf, typeInfo, hi, Builtin.lenOf, Builtin.firstCells]
  | inr q =>
    obtain ⟨g, cap, cur, e1, _, _, hnc, _⟩ := q
    rw [e1]
    simp [Builtin.append_, run_underlying ht, sizeOf, typeInfo, hi, Builtin.lenOf, Builtin.firstCells, hnc, storeCells]
theorem run_spreadK (K : El α) (ty : TypeId) (w : World) (base : Nat) (v : Value) (xs : List α) (hown : OwnK K w base v xs) (B : Nat) (A : Option Addr) (m c : Nat) (ys : List α) (hm : ys.length = m) (hr : RdK K w B A ys)
    (hl : xs.length + ys.length ≤ 1000000) (hbase : base ≤ w.heap.size) :
    ∃ v' w', (Builtin.append_ #[K.T, K.T] ty #[v, .slice A m c]).run Tryz.prog w = .ok v' w' ∧ OwnK K w' base v' (xs ++ ys) ∧ w.grownBy w' v.ownBlock ∧ (v'.ownBlock = v.ownBlock ∨ v'.ownBlock = some w.heap.size) := by
  subst hm
  cases A with
  | none =>
    have hy : ys = [] := by
      rcases hr with q | ⟨_, _, q, _⟩
      · exact q
      · cases q
    subst hy
    exact ⟨v, w, run_spreadK_none K.T ty K.e K.i K.ht K.hi hown c, by rw [List.append_nil]; exact hown, World.grownBy.refl _ _, .inl rfl⟩
  | some ad =>
    obtain ⟨v', w', h1, h2, h3, _, h5⟩ := run_append_own_at (P := Tryz.prog) w base K.T ty K.e K.i K.z K.size K.bytes K.ht K.hi K.hz K.hs K.hb K.hzs K.pos v xs.length _ hown ad ys.length c (cellsK K ys) (cellsK_len K ys) (by
      intro j u hu
      rcases hr with q | ⟨b, off, e, _, hc⟩
      · rw [q] at hu; simp [cellsK] at hu
      · cases e
        rw [addr_lit]
        exact hc j u hu) (cellsK_one K ys) (by unfold maxLen; omega) (Nat.le_trans (Nat.mul_le_mul hl K.small) (by decide)) hbase
    refine ⟨v', w', h1, ?_, h3, h5⟩
    unfold OwnK
    rw [List.length_append, cellsK_app]; exact h2
theorem wpList_spreadK (K : El α) {ops : Array Oper} {rest : List Oper} {o : Oper} {a : Act} {Q : Exit → Act → World → Prop} {w : World} (hgd : o.guard = none) (s x : Operand)
    (ho : o.op = .call { callee := .builtin .append, args := #[s, x], argTypes := #[K.T, K.T] }) (base : Nat) (v : Value) (xs : List α) (hs : a.eval s = v) (hown : OwnK K w base v xs)
    (B : Nat) (A : Option Addr) (m c : Nat) (ys : List α) (hx : a.eval x = .slice A m c) (hm : ys.length = m) (hr : RdK K w B A ys) (hl : xs.length + ys.length ≤ 1000000) (hbase : base ≤ w.heap.size)
    (h : ∀ v' w', OwnK K w' base v' (xs ++ ys) → w.grownBy w' v.ownBlock → (v'.ownBlock = v.ownBlock ∨ v'.ownBlock = some w.heap.size) → wpList Tryz.prog ops Q rest (a.put o.dst v') w') : wpList Tryz.prog ops Q (o :: rest) a w := by
  obtain ⟨v', w', h1, h2, h3, h5⟩ := run_spreadK K o.type w base v xs hown B A m c ys hm hr hl hbase
  refine wpList_plain hgd fun K' hK => ?_
  unfold Oper.wp
  simp [execOp, ho, resolve, invoke, builtin, hs, hx, h1, Result.andThen]
  exact hK _ _ (h v' w' h2 h3 h5)
theorem step_spreadK (K : El α) {ops : Array Oper} {o : Oper} {a : Act} {w : World} {K' : Act → World → Prop} {Q : Exit → Act → World → Prop} {E : Prop} (hgd : o.guard = none) (s x : Operand)
    (ho : o.op = .call { callee := .builtin .append, args := #[s, x], argTypes := #[K.T, K.T] }) (base : Nat) (v : Value) (xs : List α) (hs : a.eval s = v) (hown : OwnK K w base v xs)
    (B : Nat) (A : Option Addr) (m c : Nat) (ys : List α) (hx : a.eval x = .slice A m c) (hm : ys.length = m) (hr : RdK K w B A ys) (hl : xs.length + ys.length ≤ 1000000) (hbase : base ≤ w.heap.size)
    (h : ∀ v' w', OwnK K w' base v' (xs ++ ys) → w.grownBy w' v.ownBlock → (v'.ownBlock = v.ownBlock ∨ v'.ownBlock = some w.heap.size) → K' (a.put o.dst v') w') :
    if Region.wanted o (yielded ops a.tmps) = true then Oper.wp Tryz.prog o a w K' Q else E := by
  have hw : Region.wanted o (yielded ops a.tmps) = true := by simp [Region.wanted, hgd]
  rw [if_pos hw]
  obtain ⟨v', w', h1, h2, h3, h5⟩ := run_spreadK K o.type w base v xs hown B A m c ys hm hr hl hbase
  unfold Oper.wp
  simp [execOp, ho, resolve, invoke, builtin, hs, hx, h1, Result.andThen]
  exact h v' w' h2 h3 h5
/-! ## Cuts -/
theorem under_K (K : El α) : Tryz.prog.underlying K.T = some (.slice (Tryz.prog.elem K.T)) := by rw [K.el]; exact K.ht
theorem size_K (K : El α) (W : World) : (sizeOf K.e).run Tryz.prog W = .ok K.size W := by simp [sizeOf, typeInfo, K.hi, K.hs]
theorem slice_toK (K : El α) {A : Option Addr} {n c p : Nat} (hp : p ≤ n) (hc : n ≤ c) (W : World) : (Instr.slice K.T (.slice A n c) none (some (.int .i64 p)) none).run Tryz.prog W = .ok (.slice A p c) W := by
  rw [run_slice_h W K.T A n c (under_K K) .i64 (p : Int) (by omega) (by omega), K.el, size_K]
  cases A <;> simp [Result.andThen, sliced, addr0]
theorem slice_fromK (K : El α) {w : World} {B n c p : Nat} {A : Option Addr} {l : List α} (h : RdK K w B A l) (hn : l.length = n) (hp : p ≤ n) (hc : n ≤ c) :
    ∃ A2 c2, (∀ W, (Instr.slice K.T (.slice A n c) (some (.int .i64 p)) none none).run Tryz.prog W = .ok (.slice A2 (n - p) c2) W) ∧ (∀ w', RdK K w' B A l → RdK K w' B A2 (l.drop p)) ∧ n - p ≤ c2 ∧ (p < c → ∀ a, A = some a → A2 = some (a.add (p * K.size))) ∧ (∀ a, A2 = some a → ∃ a', A = some a' ∧ a.block = a'.block) ∧ (A ≠ none → A2 ≠ none) := by
  subst hn
  refine ⟨if c = p then A else A.map (·.add (p * K.size)), c - p, fun W => ?_, fun w' h => ?_, by omega, fun hpc a e => by rw [if_neg (by omega), e]; rfl, fun a e => ?_, fun e => ?_⟩
  · rw [run_slice_l W K.T A l.length c (under_K K) .i64 (p : Int) (by omega) (by omega), K.el, size_K]
    simp [Result.andThen, sliced]
  · by_cases e : p = l.length
    · exact .inl (List.drop_eq_nil_of_le (by omega))
    · rw [if_neg (by omega)]
      rcases h with h | ⟨b, o, rfl, hb, hcell⟩
      · subst h; simp at hp e; omega
      refine .inr ⟨b, o + p * K.size, by simp [addr_lit], hb, fun m u hu => ?_⟩
      rw [← cellsK_drop, List.getElem?_drop] at hu
      rw [Nat.add_assoc]
      exact hcell _ u hu
  · split at e
    · exact ⟨a, e, rfl⟩
    · cases A with
      | none => simp at e
      | some a' => simp at e; subst e; exact ⟨a', rfl, by unfold Addr.add; split <;> rfl⟩
  · split
    · exact e
    · cases A with
      | none => exact absurd rfl e
      | some a' => simp
theorem OwnK.some_ {K : El α} {w : World} {base : Nat} {v : Value} {l : List α} (h : OwnK K w base v l) {n : Nat} (hn : l.length = n + 1) : ∃ g cap, v = .slice (some ⟨g, 0, none⟩) (n + 1) cap ∧ base ≤ g ∧ g < w.heap.size ∧ n + 1 ≤ cap := by
  have hlt := h.lt
  rcases h.2 with ⟨_, e⟩ | ⟨g, cap, cur, rfl, hg, hh, hn2, hc, hs, ht⟩
  · omega
  · rw [hn] at hn2 ⊢
    exact ⟨g, cap, rfl, hg, (hlt g rfl).2, hn2⟩
theorem OwnK.take {K : El α} {w : World} {base p c : Nat} {A : Option Addr} {l : List α} (h : OwnK K w base (.slice A l.length c) l) (hp : p ≤ l.length) : OwnK K w base (.slice A p c) (l.take p) := by
  have hl : (l.take p).length = p := by rw [List.length_take]; omega
  refine ⟨by rw [cellsK_len], ?_⟩
  rw [hl]
  rcases h.2 with ⟨e, h0⟩ | ⟨g, cap, cur, e, hg, hb, hn, hc, hs, ht⟩
  · have p0 : p = 0 := by omega
    simp only [Value.slice.injEq] at e
    obtain ⟨rfl, _, rfl⟩ := e
    subst p0
    exact .inl ⟨rfl, rfl⟩
  · simp only [Value.slice.injEq] at e
    obtain ⟨rfl, _, rfl⟩ := e
    refine .inr ⟨g, c, cur, rfl, hg, hb, by omega, hc, hs, ?_⟩
    rw [← cellsK_take, ← ht, List.take_take, Nat.min_eq_left (Nat.mul_le_mul_right _ hp)]
/-! ## The kinds -/
noncomputable def infoOf (t : TypeId) : TypeInfo := (Tryz.prog.info? t).get!
noncomputable def strK : El Bs where
  T := 43
  e := 9
  size := 1
  bytes := 16
  z := .string ByteArray.empty
  i := infoOf 9
  enc := fun x => [str x]
  el := by kernel_rfl
  ht := Tryz.underlying43
  hi := by kernel_rfl
  hz := by kernel_rfl
  hs := by kernel_rfl
  hb := by kernel_rfl
  hzs := rfl
  pos := by decide
  len := fun _ => rfl
  one := fun _ u hu => by simp at hu; subst hu; rfl
  small := by decide
noncomputable def rowK : El Rw where
  T := 93
  e := 96
  size := 2
  bytes := 24
  z := .agg #[.string ByteArray.empty, .int .i64 0]
  i := infoOf 96
  enc := fun r => [str r.1, .int .i64 r.2]
  el := by kernel_rfl
  ht := Tryz.underlying93
  hi := by kernel_rfl
  hz := by kernel_rfl
  hs := by kernel_rfl
  hb := by kernel_rfl
  hzs := rfl
  pos := by decide
  len := fun _ => rfl
  one := fun _ u hu => by simp at hu; rcases hu with rfl | rfl <;> rfl
  small := by decide
theorem OwnP.k {w : World} {base : Nat} {v : Value} {l : List Rw} : OwnP w base v l ↔ OwnK rowK w base v l := Iff.rfl
theorem RdK.rows {w : World} {B : Nat} {A : Option Addr} {l : List Rw} (h : RdK rowK w B A l) : RdR w B A l := by
  rcases h with h | ⟨b, off, e, hb, hc⟩
  · exact .inl h
  · refine .inr ⟨b, off, e, hb, fun j x hx => ?_⟩
    have h0 := hc _ _ (cellsK_at rowK hx (i := 0) (u := str x.1) rfl)
    have h1 := hc _ _ (cellsK_at rowK hx (i := 1) (u := .int .i64 x.2) rfl)
    exact ⟨h0, by rw [Nat.add_assoc]; exact h1⟩
theorem RdK.strs {w : World} {B : Nat} {A : Option Addr} {l : List Bs} (h : RdK strK w B A l) : Strs w B A l := by
  rcases h with h | ⟨b, off, e, hb, hc⟩
  · exact .inl h
  · refine .inr ⟨b, off, e, hb, fun j x hx => ?_⟩
    have h0 := hc _ _ (cellsK_at strK hx (i := 0) (u := str x) rfl)
    have e1 : j * strK.size + 0 = j := by show j * 1 + 0 = j; omega
    rwa [e1] at h0
/-- The cells behind A, below block B, are the numbers l. -/
def RdI (w : World) (B : Nat) (A : Option Addr) (l : List Int) : Prop := l = [] ∨ ∃ b off, A = some ⟨b, off, none⟩ ∧ b < B ∧ ∀ j x, l[j]? = some x → w.cell? ⟨b, off + j, none⟩ = some (.int .i64 x)
theorem RdI.at_ {w : World} {B : Nat} {A : Option Addr} {l : List Int} (h : RdI w B A l) (h0 : 0 < l.length) : ∃ b off, A = some ⟨b, off, none⟩ ∧ b < B ∧ ∀ j x, l[j]? = some x → w.cell? ⟨b, off + j, none⟩ = some (.int .i64 x) := by
  rcases h with rfl | h
  · simp at h0
  · exact h
theorem RdI.below {w w' : World} {B : Nat} {A : Option Addr} {l : List Int} (h : RdI w B A l) (k : Below B w w') : RdI w' B A l := by
  rcases h with h | ⟨b, off, e, hb, hc⟩
  · exact .inl h
  · exact .inr ⟨b, off, e, hb, fun j x hx => (k.cell (p := ⟨b, _, none⟩) hb).trans (hc j x hx)⟩
theorem RdI.more {w : World} {B B' : Nat} {A : Option Addr} {l : List Int} (h : RdI w B A l) (k : B ≤ B') : RdI w B' A l := by
  rcases h with h | ⟨b, off, e, hb, hc⟩
  · exact .inl h
  · exact .inr ⟨b, off, e, by omega, hc⟩
end Go.Proofs.YtlfbjgeobibnhaaGreatDoor.IX
/-
  Within a row of one's own: a copy one place up, an append that closes a gap, a clear of the last place: laws for the walk.
-/
namespace Go.Proofs.YtlfbjgeobibnhaaGreatDoor.IX
open Go.RowKit HL
set_option maxRecDepth 100000
set_option linter.unusedVariables false
set_option linter.unusedSimpArgs false
variable {α : Type}

theorem grownBy_setRow (w : World) (g : Nat) (cs : Array Value) : w.grownBy (w.setRow g cs) (some g) :=
  ⟨rfl, rfl, rfl, by simp [World.setRow], fun k hk hne => setRow_other w g k cs (fun e => hne (by rw [e]))⟩
/-- What an own row's block holds. -/
theorem OwnK.open_ {K : El α} {w : World} {base g n cap : Nat} {l : List α} (h : OwnK K w base (.slice (some ⟨g, 0, none⟩) n cap) l) :
    n = l.length ∧ base ≤ g ∧ ∃ cur, w.heap[g]? = some (.cells cur K.e (0, 0)) ∧ l.length ≤ cap ∧ cap ≤ maxLen ∧ cur.size = cap * K.size ∧ cur.toList.take (l.length * K.size) = cellsK K l := by
  rcases h.2 with ⟨e, _⟩ | ⟨g', cap', cur, e, hg, hb, hn, hc, hs, ht⟩
  · simp at e
  · simp only [Value.slice.injEq, Option.some.injEq, Addr.mk.injEq] at e
    obtain ⟨⟨rfl, _⟩, rfl, rfl⟩ := e
    exact ⟨rfl, hg, cur, hb, hn, hc, hs, ht⟩
theorem OwnK.set_ {K : El α} {w : World} {base g cap : Nat} {cur : Array Value} (hg : base ≤ g) (hb : w.heap[g]? = some (.cells cur K.e (0, 0))) (hc : cap ≤ maxLen) (cs : List Value) (hs : cs.length = cap * K.size) (l : List α) (hl : l.length ≤ cap) (ht : cs.take (l.length * K.size) = cellsK K l) :
    OwnK K (w.setRow g cs.toArray) base (.slice (some ⟨g, 0, none⟩) l.length cap) l :=
  ⟨by rw [cellsK_len], .inr ⟨g, cap, _, rfl, hg, setRow_heap w g cur _ K.e _ hb, hl, hc, by simpa using hs, by simpa using ht⟩⟩
theorem seg_take {L cs : List Value} {o m : Nat} (h : o + cs.length = m) (hm : m ≤ L.length) : (L.take o ++ cs ++ L.drop (o + cs.length)).take m = L.take o ++ cs := by
  rw [List.take_append_of_le_length (by simp; omega), List.take_of_length_le (by simp; omega)]
theorem seg_len {L cs : List Value} {o : Nat} (h : o + cs.length ≤ L.length) : (L.take o ++ cs ++ L.drop (o + cs.length)).length = L.length := by simp; omega
theorem run_shiftK (K : El α) (ty : TypeId) (w : World) (base g cap : Nat) (l : List α) (hown : OwnK K w base (.slice (some ⟨g, 0, none⟩) l.length cap) l) (i m : Nat) (hi : i + 1 + m = l.length) (dp sp : Option Addr) (dCap sCap : Nat)
    (hpos : 0 < m → dp = some ⟨g, (i + 1) * K.size, none⟩ ∧ sp = some ⟨g, i * K.size, none⟩) :
    ∃ w', (Builtin.copy_ #[K.T, K.T] ty #[.slice dp m dCap, .slice sp (m + 1) sCap]).run Tryz.prog w = .ok (.int .i64 m) w' ∧ OwnK K w' base (.slice (some ⟨g, 0, none⟩) l.length cap) (l.take (i + 1) ++ (l.drop i).take m) ∧ w.grownBy w' (some g) := by
  obtain ⟨_, hg, cur, hb, hn, hc, hs, ht⟩ := hown.open_
  by_cases h0 : m = 0
  · subst h0
    have hl : ∀ (x : Addr), (loadCells x 0).run Tryz.prog w = .ok #[] w := fun x => by simpa using run_loadCells_list (P := Tryz.prog) w x [] (by simp)
    refine ⟨w, ?_, ?_, World.grownBy.refl _ _⟩
    · cases dp <;> cases sp <;> simp [Builtin.copy_, run_underlying K.ht, Builtin.lenOf, Builtin.firstCells, sizeOf, typeInfo, K.hi, K.hs, storeCells, hl, goInt]
    · rw [List.take_zero, List.append_nil, List.take_of_length_le (by omega)]; exact hown
  · obtain ⟨rfl, rfl⟩ := hpos (by omega)
    have e1 : l.length * K.size = (i + 1) * K.size + m * K.size := by rw [← Nat.add_mul, hi]
    have e2 : (cellsK K ((l.drop i).take m)).length = m * K.size := by rw [cellsK_len, List.length_take, List.length_drop]; congr 1; omega
    have hcap : (i + 1) * K.size + m * K.size ≤ cur.size := by rw [← e1, hs]; exact Nat.mul_le_mul_right _ hn
    have hsrc : ∀ j v, (cellsK K ((l.drop i).take m))[j]? = some v → w.cell? ((⟨g, i * K.size, none⟩ : Addr).add j) = some v := fun j v hv => by
      rw [addr_lit, cell_of_row w g _ cur _ (0, 0) hb]
      rw [← cellsK_take, List.getElem?_take] at hv
      split at hv
      · rw [← cellsK_drop, ← ht, List.getElem?_drop, List.getElem?_take] at hv
        split at hv
        · simpa using hv
        · cases hv
      · cases hv
    have hl := run_loadCells_list (P := Tryz.prog) w ⟨g, i * K.size, none⟩ _ hsrc
    have hst := run_storeCells_at Tryz.prog g ((i + 1) * K.size) K.e (cellsK K ((l.drop i).take m)) 0 cur w hb (by rw [e2]; simpa using hcap) (cellsK_one K _)
    rw [e2] at hl
    simp only [Nat.add_zero] at hst
    have hmin : Nat.min (m + 1) m = m := Nat.min_eq_right (by omega)
    have hw := OwnK.set_ (K := K) (base := base) hg hb hc _ (by rw [seg_len (L := cur.toList) (o := (i + 1) * K.size) (by rw [e2]; simpa using hcap)]; simpa using hs) (l.take (i + 1) ++ (l.drop i).take m) (by simp; omega) (by
      rw [seg_take (by rw [e2, ← e1]; simp; congr 1; omega) (by rw [show (l.take (i + 1) ++ (l.drop i).take m).length = l.length by simp; omega]; simpa [hs] using Nat.mul_le_mul_right K.size hn), cellsK_app]
      congr 1
      rw [← cellsK_take, ← ht, List.take_take, Nat.min_eq_left (Nat.mul_le_mul_right _ (by omega))])
    rw [show (l.take (i + 1) ++ (l.drop i).take m).length = l.length by simp; omega] at hw
    refine ⟨_, ?_, hw, grownBy_setRow _ _ _⟩
    simp [Builtin.copy_, run_underlying K.ht, Builtin.lenOf, Builtin.firstCells, sizeOf, typeInfo, K.hi, K.hs, hmin, hl, hst, goInt]
/-- A copy one place up within a row of one's own. -/
theorem wpList_shiftK (K : El α) {ops : Array Oper} {rest : List Oper} {o : Oper} {a : Act} {Q : Exit → Act → World → Prop} {w : World} (hgd : o.guard = none) (d s : Operand)
    (ho : o.op = .call { callee := .builtin .copy, args := #[d, s], argTypes := #[K.T, K.T] }) (base g cap : Nat) (l : List α) (hown : OwnK K w base (.slice (some ⟨g, 0, none⟩) l.length cap) l) (i m : Nat) (hi : i + 1 + m = l.length) (dp sp : Option Addr) (dCap sCap : Nat)
    (hd : a.eval d = .slice dp m dCap) (hs : a.eval s = .slice sp (m + 1) sCap) (hpos : 0 < m → dp = some ⟨g, (i + 1) * K.size, none⟩ ∧ sp = some ⟨g, i * K.size, none⟩)
    (h : ∀ w', OwnK K w' base (.slice (some ⟨g, 0, none⟩) l.length cap) (l.take (i + 1) ++ (l.drop i).take m) → w.grownBy w' (some g) → wpList Tryz.prog ops Q rest (a.put o.dst (.int .i64 m)) w') : wpList Tryz.prog ops Q (o :: rest) a w := by
  obtain ⟨w', h1, h2, h3⟩ := run_shiftK K o.type w base g cap l hown i m hi dp sp dCap sCap hpos
  refine wpList_plain hgd fun K' hK => ?_
  unfold Oper.wp
  simp [execOp, ho, resolve, invoke, builtin, hd, hs, h1, Result.andThen]
  exact hK _ _ (h w' h2 h3)
/-- append(s[:i], s[i+1:]...) of a row of one's own. -/
theorem run_closeK (K : El α) (ty : TypeId) (w : World) (base g cap : Nat) (l : List α) (m i : Nat) (hm : l.length = m + 1) (hown : OwnK K w base (.slice (some ⟨g, 0, none⟩) (m + 1) cap) l) (hi : i ≤ m) (sp : Option Addr) (sCap : Nat)
    (hpos : i < m → sp = some ⟨g, (i + 1) * K.size, none⟩) (hsp : sp ≠ none) :
    ∃ w', (Builtin.append_ #[K.T, K.T] ty #[.slice (some ⟨g, 0, none⟩) i cap, .slice sp (m - i) sCap]).run Tryz.prog w = .ok (.slice (some ⟨g, 0, none⟩) m cap) w' ∧ OwnK K w' base (.slice (some ⟨g, 0, none⟩) m cap) (l.take i ++ l.drop (i + 1)) ∧ w.grownBy w' (some g) := by
  obtain ⟨_, hg, cur, hb, hn, hc, hs, ht⟩ := hown.open_
  obtain ⟨ad, rfl⟩ : ∃ ad, sp = some ad := by cases sp with | none => exact absurd rfl hsp | some ad => exact ⟨ad, rfl⟩
  have e2 : (cellsK K (l.drop (i + 1))).length = (m - i) * K.size := by rw [cellsK_len, List.length_drop]; congr 1; omega
  have hsrc : ∀ j v, (cellsK K (l.drop (i + 1)))[j]? = some v → w.cell? (ad.add j) = some v := fun j v hv => by
    have hj := (List.getElem?_eq_some_iff.1 hv).1
    have hlt : i < m := by
      by_cases h : i < m
      · exact h
      · rw [e2, show m - i = 0 by omega] at hj; simp at hj
    obtain rfl : ad = ⟨g, (i + 1) * K.size, none⟩ := by simpa using hpos hlt
    rw [addr_lit, cell_of_row w g _ cur _ (0, 0) hb]
    rw [← cellsK_drop, ← ht, List.getElem?_drop, List.getElem?_take] at hv
    split at hv
    · simpa using hv
    · cases hv
  have e3 : i * K.size + (m - i) * K.size = m * K.size := by rw [← Nat.add_mul]; congr 1; omega
  have hcap : i * K.size + (m - i) * K.size ≤ cur.size := by rw [e3, hs]; exact Nat.mul_le_mul_right _ (by omega)
  have hr := run_append_room (P := Tryz.prog) w K.T ty K.e K.i K.ht K.hi g i cap cur hb ad (m - i) sCap (cellsK K (l.drop (i + 1))) (by rw [e2, K.hs]) hsrc (cellsK_one K _) (by omega) (by rw [K.hs, e2]; exact hcap)
  rw [K.hs, show i + (m - i) = m by omega] at hr
  have hll : (l.take i ++ l.drop (i + 1)).length = m := by simp; omega
  have hw := OwnK.set_ (K := K) (base := base) hg hb hc _ (by rw [seg_len (L := cur.toList) (o := i * K.size) (by rw [e2]; simpa using hcap)]; simpa using hs) (l.take i ++ l.drop (i + 1)) (by omega) (by
    rw [hll, seg_take (by rw [e2, e3]) (by simp [hs]; exact Nat.mul_le_mul_right K.size (by omega)), cellsK_app]
    congr 1
    rw [← cellsK_take, ← ht, List.take_take, Nat.min_eq_left (Nat.mul_le_mul_right _ (by omega))])
  rw [hll] at hw
  exact ⟨_, hr, hw, grownBy_setRow _ _ _⟩
theorem wpList_closeK (K : El α) {ops : Array Oper} {rest : List Oper} {o : Oper} {a : Act} {Q : Exit → Act → World → Prop} {w : World} (hgd : o.guard = none) (d s : Operand)
    (ho : o.op = .call { callee := .builtin .append, args := #[d, s], argTypes := #[K.T, K.T] }) (base g cap : Nat) (l : List α) (m i : Nat) (hm : l.length = m + 1) (hown : OwnK K w base (.slice (some ⟨g, 0, none⟩) (m + 1) cap) l) (hi : i ≤ m) (sp : Option Addr) (sCap : Nat)
    (hd : a.eval d = .slice (some ⟨g, 0, none⟩) i cap) (hs : a.eval s = .slice sp (m - i) sCap) (hpos : i < m → sp = some ⟨g, (i + 1) * K.size, none⟩) (hsp : sp ≠ none)
    (h : ∀ w', OwnK K w' base (.slice (some ⟨g, 0, none⟩) m cap) (l.take i ++ l.drop (i + 1)) → w.grownBy w' (some g) → wpList Tryz.prog ops Q rest (a.put o.dst (.slice (some ⟨g, 0, none⟩) m cap)) w') : wpList Tryz.prog ops Q (o :: rest) a w := by
  obtain ⟨w', h1, h2, h3⟩ := run_closeK K o.type w base g cap l m i hm hown hi sp sCap hpos hsp
  refine wpList_plain hgd fun K' hK => ?_
  unfold Oper.wp
  simp [execOp, ho, resolve, invoke, builtin, hd, hs, h1, Result.andThen]
  exact hK _ _ (h w' h2 h3)
/-- clear of what lies behind a row of one's own, one place. -/
theorem run_clearK (K : El α) (w : World) (base g cap m c : Nat) (l : List α) (hown : OwnK K w base (.slice (some ⟨g, 0, none⟩) m cap) l) (hm : m < cap) (z : Value) (hz : ∀ W, (zeroValue K.e).run Tryz.prog W = .ok z W) (hzs : z.cells.size = K.size) (hz1 : ∀ u ∈ z.cells.toList, u.oneCell' = true) :
    ∃ w', (∀ ty, (Builtin.clear_ #[K.T] ty #[.slice (some ⟨g, m * K.size, none⟩) 1 c]).run Tryz.prog w = .ok (.tuple #[]) w') ∧ OwnK K w' base (.slice (some ⟨g, 0, none⟩) m cap) l ∧ w.grownBy w' (some g) := by
  obtain ⟨rfl, hg, cur, hb, hn, hc, hs, ht⟩ := hown.open_
  have e0 : (Builtin.zeroCells z.cells 1).toList = z.cells.toList := by
    apply List.ext_getElem
    · simp [Builtin.zeroCells]
    · intro j h1 h2
      have hj : j < z.cells.size := by simpa using h2
      simp [Builtin.zeroCells, Nat.mod_eq_of_lt hj, hj]
  have hcap : l.length * K.size + z.cells.toList.length ≤ cur.size := by
    rw [show z.cells.toList.length = K.size by rw [Array.length_toList, hzs], hs]
    calc l.length * K.size + K.size = (l.length + 1) * K.size := by rw [Nat.add_mul]; omega
      _ ≤ cap * K.size := Nat.mul_le_mul_right _ hm
  have hst := run_storeCells_at Tryz.prog g (l.length * K.size) K.e z.cells.toList 0 cur w hb (by simpa using hcap) hz1
  simp only [Nat.add_zero] at hst
  have hw := OwnK.set_ (K := K) (base := base) hg hb hc _ (by rw [seg_len (L := cur.toList) (o := l.length * K.size) (by rw [Array.length_toList]; exact hcap)]; simpa using hs) l hn (by
    rw [List.append_assoc, List.take_append_of_le_length (by simp; omega), List.take_take, Nat.min_self, ht])
  refine ⟨_, fun ty => ?_, hw, grownBy_setRow _ _ _⟩
  simp [Builtin.clear_, run_underlying K.ht, hz, e0, hst]
end Go.Proofs.YtlfbjgeobibnhaaGreatDoor.IX
/-
  WALKS: New, At, Put of an index.
-/
namespace Go.Proofs.YtlfbjgeobibnhaaGreatDoor.IX
open Go.RowKit HL
set_option maxRecDepth 100000
set_option linter.unusedVariables false
set_option linter.unusedSimpArgs false

theorem zero_ix (W : World) : Sem.run Tryz.prog (zeroValue 99) W = .ok (.agg #[.pointer none, .slice none 0 0]) W := by kernel_rfl
set_option maxHeartbeats 1000000 in
theorem holding_any (A : Option Addr) (c : Nat) (l : List Rw) (w : World) (ho : OwnP w 0 (.slice A l.length c) l) (u : Up l) :
    Calls Tryz.prog 45 #[.slice A l.length c] w fun e w' => e = .returned (ptr w.heap.size) ∧ IxAt w' w.heap.size (.slice A l.length c) l ∧ Below w.heap.size w w' := by
  have hz := zero_ix
  have HO := Lib.hid ho
  have hlt := ho.lt
  have HL := Lib.hid hlt
  clear ho hlt
  go_enter Tryz.func45, Tryz.ntmps45
  go_wp2
  go_ret
  have q := AtC.new w #[ptr w.heap.size, .slice A l.length c] 99
  have hb : Below w.heap.size w (w.alloc (.cells #[ptr w.heap.size, .slice A l.length c] 99)) := (Below.refl _ _).alloc (Nat.le_refl _) _
  refine ⟨rfl, ⟨q, OwnK.below (K := rowK) HO.out hb, ?_, u⟩, hb⟩
  intro e
  have := (HL.out _ e).2
  omega
theorem new_any (w : World) : Calls Tryz.prog 20 #[] w fun e w' => e = .returned (ptr w.heap.size) ∧ IxAt w' w.heap.size (.slice none 0 0) [] ∧ Below w.heap.size w w' := by
  have C : Hid (Calls Tryz.prog 45 #[.slice none 0 0] w fun e w' => e = .returned (ptr w.heap.size) ∧ IxAt w' w.heap.size (.slice none 0 0) [] ∧ Below w.heap.size w w') := Lib.hid (holding_any none 0 [] w (OwnP.nil_ _ _) List.Pairwise.nil)
  go_enter Tryz.func20, Tryz.ntmps20
  go_wp2_with (go_at_call 45; ((with_reducible refine C.out.mono ?_); rintro e w1 ⟨rfl, a1, k1⟩; have A1 := Lib.hid a1; clear a1))
  go_ret
  exact ⟨rfl, A1.out, k1⟩
theorem ix_c0 {w : World} {B : Nat} {v : Value} (h : AtC w B (ixC B v)) : w.cell? ⟨B, 0, none⟩ = some (ptr B) := h.c 0
theorem ix_c1 {w : World} {B : Nat} {v : Value} (h : AtC w B (ixC B v)) : w.cell? ⟨B, 1, none⟩ = some v := h.c 1
/-! ## Put -/
noncomputable def mayS (x : Bs) : Bool := mayB ⟨x.toArray⟩
theorem mayS_len {x : Bs} (h : mayS x = true) : x.length ≤ 16 := (mayB_iff.1 h).2.1

theorem put_row (l : List Rw) (h : Bs) (n : Int) (i m : Nat) (hm : i + m = l.length) (z : Rw) :
    (((l ++ [z]).take (i + 1) ++ ((l ++ [z]).drop i).take m).set i (h, n)) = l.take i ++ (h, n) :: l.drop i := by
  have e1 : ((l ++ [z]).drop i).take m = l.drop i := by
    rw [List.drop_append_of_le_length (by omega), List.take_append_of_le_length (by simp; omega), List.take_of_length_le (by simp; omega)]
  have e2 : (l ++ [z]).take (i + 1) = l.take i ++ [(l ++ [z])[i]'(by simp; omega)] := by
    rw [List.take_succ_eq_append_getElem (by simp; omega), List.take_append_of_le_length (by omega)]
  have e3 : (l.take i).length = i := by rw [List.length_take]; omega
  rw [e1, e2, List.append_assoc, List.set_append_right _ _ (by rw [e3]; exact Nat.le_refl _), e3, Nat.sub_self]
  rfl
theorem OwnK.rowSet {w : World} {base g cap : Nat} {l : List Rw} (h : OwnK rowK w base (.slice (some ⟨g, 0, none⟩) l.length cap) l) {i : Nat} (hi : i < l.length) (x : Bs) (y : Int) :
    OwnK rowK ((w.setCell ⟨g, i * 2, none⟩ (str x)).setCell ⟨g, i * 2 + 1, none⟩ (.int .i64 y)) base (.slice (some ⟨g, 0, none⟩) l.length cap) (l.set i (x, y)) := by
  have h2 := ((World.ownsRow.stored h (i * 2) (str x)).1.stored (i * 2 + 1) (.int .i64 y)).1
  have e : ((cellsK rowK l).set (i * 2) (str x)).set (i * 2 + 1) (.int .i64 y) = cellsK rowK (l.set i (x, y)) := by
    clear h h2
    show ((rowsV l).set _ _).set _ _ = rowsV (l.set i (x, y))
    induction l generalizing i with
    | nil => simp at hi
    | cons r l ih =>
      cases i with
      | zero => simp [rowsV_cons]
      | succ i =>
        rw [show (i + 1) * 2 = i * 2 + 1 + 1 by omega, rowsV_cons, List.set_cons_succ, List.set_cons_succ, List.set_cons_succ, List.set_cons_succ, List.set_cons_succ, rowsV_cons, ih (by simpa using hi)]
  unfold OwnK
  rw [List.length_set, ← e]
  exact h2
noncomputable def putE (l : List Rw) (h : Bs) (n : Int) : Int := if mayS h = true then (if n < 0 then 2 else if hasB l h = true then 71 else 0) else 10
noncomputable def putL (l : List Rw) (h : Bs) (n : Int) : List Rw := if mayS h = true ∧ 0 ≤ n ∧ hasB l h = false then ins l h n else l
theorem put_no1 {l : List Rw} {h : Bs} {n : Int} (k : mayS h = false) : putE l h n = 10 ∧ putL l h n = l := by simp [putE, putL, k]
theorem put_no2 {l : List Rw} {h : Bs} {n : Int} (k : mayS h = true) (k2 : n < 0) : putE l h n = 2 ∧ putL l h n = l := by simp [putE, putL, k, k2]; omega
theorem put_no3 {l : List Rw} {h : Bs} {n : Int} (k : mayS h = true) (k2 : ¬ n < 0) (k3 : hasB l h = true) : putE l h n = 71 ∧ putL l h n = l := by simp [putE, putL, k, k2, k3]
theorem put_yes {l : List Rw} {h : Bs} {n : Int} (k : mayS h = true) (k2 : ¬ n < 0) (k3 : hasB l h = false) : putE l h n = 0 ∧ putL l h n = l.take (plc l h) ++ (h, n) :: l.drop (plc l h) := by
  have : 0 ≤ n := by omega
  simp [putE, putL, k, k2, k3, this, ins]
set_option maxHeartbeats 1000000 in
theorem put_no (B : Nat) (v : Value) (l : List Rw) (h : Bs) (n : Int) (w : World) (hA : IxAt w B v l) (hn : l.length ≤ 1000000) (hh : h.length ≤ maxLen) (k : putE l h n ≠ 0) :
    Calls Tryz.prog 48 #[ptr B, str h, .int .i64 n] w fun e w' => e = .returned (.int .i64 (putE l h n)) ∧ putL l h n = l ∧ Below w.heap.size w w' := by
  have C := Lib.hid (seek_any B v l h w hA hn)
  have CM := Lib.hid (fun W q => made_any B v W (hA.a.then q))
  have CY := Lib.hid (fun W => may_any ⟨h.toArray⟩ W hh)
  have hb : Below w.heap.size w w := Below.refl _ _
  clear hA hh
  by_cases hm : mayS h = true
  · have hm' : mayB ⟨h.toArray⟩ = true := hm
    rw [hm'] at CY
    clear hm'
    by_cases h2 : n < 0
    · have HV := Lib.hid (put_no2 (l := l) hm h2)
      clear hm k
      go_enter Tryz.func48, Tryz.ntmps48
      go_wp2_with (first
        | (go_at_call 69; ((with_reducible refine C.out.mono ?_); rintro e w1 ⟨rfl, k1⟩; replace hb := bThen hb k1))
        | (go_at_call 66; ((with_reducible refine (CM.out _ hb).mono ?_); rintro e w2 ⟨rfl, rfl⟩))
        | (go_at_call 70; ((with_reducible refine (CY.out _).mono ?_); rintro e w3 ⟨rfl, k3⟩; replace hb := bThen hb k3)))
      go_ret
      exact ⟨by rw [HV.out.1]; rfl, HV.out.2, hb⟩
    · have h3 : hasB l h = true := by
        cases e : hasB l h with
        | true => rfl
        | false => exact absurd (put_yes hm h2 e).1 k
      have HV := Lib.hid (put_no3 hm h2 h3)
      rw [h3] at C
      clear hm h3 k
      go_enter Tryz.func48, Tryz.ntmps48
      go_wp2_with (first
        | (go_at_call 69; ((with_reducible refine C.out.mono ?_); rintro e w1 ⟨rfl, k1⟩; replace hb := bThen hb k1))
        | (go_at_call 66; ((with_reducible refine (CM.out _ hb).mono ?_); rintro e w2 ⟨rfl, rfl⟩))
        | (go_at_call 70; ((with_reducible refine (CY.out _).mono ?_); rintro e w3 ⟨rfl, k3⟩; replace hb := bThen hb k3)))
      go_ret
      exact ⟨by rw [HV.out.1]; rfl, HV.out.2, hb⟩
  · have hm0 : mayS h = false := by simpa using hm
    have hm' : mayB ⟨h.toArray⟩ = false := hm0
    rw [hm'] at CY
    have HV := Lib.hid (put_no1 (l := l) (n := n) hm0)
    clear hm hm0 hm' k
    go_enter Tryz.func48, Tryz.ntmps48
    go_wp2_with (first
      | (go_at_call 69; ((with_reducible refine C.out.mono ?_); rintro e w1 ⟨rfl, k1⟩; replace hb := bThen hb k1))
      | (go_at_call 66; ((with_reducible refine (CM.out _ hb).mono ?_); rintro e w2 ⟨rfl, rfl⟩))
      | (go_at_call 70; ((with_reducible refine (CY.out _).mono ?_); rintro e w3 ⟨rfl, k3⟩; replace hb := bThen hb k3)))
    go_ret
    exact ⟨by rw [HV.out.1]; rfl, HV.out.2, hb⟩
set_option maxHeartbeats 2000000 in
theorem put_ok (B : Nat) (v : Value) (l : List Rw) (h : Bs) (n : Int) (w : World) (hA : IxAt w B v l) (hn : l.length ≤ 100000) (hh : h.length ≤ maxLen) (hm : mayS h = true) (h2 : ¬ n < 0) (h3 : hasB l h = false) :
    Calls Tryz.prog 48 #[ptr B, str h, .int .i64 n] w fun e w' => ∃ v', e = .returned (.int .i64 0) ∧ IxAt w' B v' (l.take (plc l h) ++ (h, n) :: l.drop (plc l h)) ∧ (∀ k, v'.ownBlock = some k → v.ownBlock = some k ∨ w.heap.size ≤ k) ∧ Kept w w' (fun k => k ≠ B ∧ v.ownBlock ≠ some k) := by
  have C := Lib.hid (seek_any B v l h w hA (by omega))
  have CM := Lib.hid (fun W q => made_any B v W (hA.a.then q))
  have CY := Lib.hid (fun W => may_any ⟨h.toArray⟩ W hh)
  have hm' : mayB ⟨h.toArray⟩ = true := hm
  rw [hm'] at CY
  rw [h3] at C
  have hb : Below w.heap.size w w := Below.refl _ _
  have HU := Lib.hid (up_ins hA.up n h3)
  have HA := Lib.hid hA
  have hpl := plc_le l h
  obtain ⟨m, hmm⟩ : ∃ m, plc l h + m = l.length := ⟨l.length - plc l h, by omega⟩
  have HM := Lib.hid hmm
  obtain ⟨A0, c0, rfl, _, _⟩ := hA.rows
  clear hA hh hm hm' h3 hmm
  unfold ins at HU
  generalize plc l h = i at *
  go_enter Tryz.func48, Tryz.ntmps48
  go_wp2_with (first
    | (go_at_call 69; ((with_reducible refine C.out.mono ?_); rintro e w1 ⟨rfl, k1⟩; replace hb := bThen hb k1))
    | (go_at_call 66; ((with_reducible refine (CM.out _ hb).mono ?_); rintro e w2 ⟨rfl, rfl⟩))
    | (go_at_call 70; ((with_reducible refine (CY.out _).mono ?_); rintro e w3 ⟨rfl, k3⟩; replace hb := bThen hb k3; have c1 := ix_c1 (HA.out.then hb).a))
    | (at_builtin; refine wpList_spreadK rowK rfl (.tmp 32) (.tmp 34) rfl 0 _ l rfl ((OwnP.k.1 (HA.out.then hb).r).below ((Below.refl _ _).alloc (Nat.le_refl _) _)) (w3.heap.size + 1) (some ⟨w3.heap.size, 0, none⟩) 1 1 [([], 0)] rfl rfl (RdK.lit _ _ _ rfl _) ?c1 (Nat.zero_le _) ?_))
  case c1 => simp; omega
  intro v4 w4 o4 g4 f4
  obtain ⟨g, cap, rfl, _, hgl, hcap⟩ := o4.some_ (n := l.length) (by simp)
  have kq : Kept w w4 (fun k => (Value.slice A0 l.length c0).ownBlock ≠ some k) := ((Kept.of_below hb).alloc _).grown g4 (fun k e _ p => p e)
  have KQ := Lib.hid kq
  have m4 : AtC w4 B (ixC B (.slice A0 l.length c0)) := kq.atC HA.out.a HA.out.ne
  have HF : Hid ((Value.slice A0 l.length c0).ownBlock = some g ∨ w.heap.size ≤ g) := Lib.hid (by
    rcases f4 with e | e
    · exact .inl e.symm
    · right
      have : g = w3.heap.size + 1 := by simpa [Value.ownBlock] using e
      have := hb.size
      omega)
  have hgB : g ≠ B := by
    rcases HF.out with e | e
    · intro e2; exact HA.out.ne (by rw [e, e2])
    · have := HA.out.a.lt; omega
  have O4 := Lib.hid o4
  have M4 := Lib.hid m4
  have d1 := ix_c1 m4
  have f1 := m4.f 1
  clear o4 g4 f4 kq m4 c1
  go_wp2
  have hl1 : (l ++ [(([] : Bs), (0 : Int))]).length = l.length + 1 := by simp
  have m5 : AtC (w4.setCell ⟨B, 1, none⟩ (.slice (some ⟨g, 0, none⟩) (l.length + 1) cap)) B (ixC B (.slice (some ⟨g, 0, none⟩) (l.length + 1) cap)) := by
    have q := M4.out.set (i := 1) (by show 1 < 2; omega) (.slice (some ⟨g, 0, none⟩) (l.length + 1) cap)
    exact q
  have o5 : OwnK rowK (w4.setCell ⟨B, 1, none⟩ (.slice (some ⟨g, 0, none⟩) (l.length + 1) cap)) 0 (.slice (some ⟨g, 0, none⟩) (l.length + 1) cap) (l ++ [(([] : Bs), (0 : Int))]) :=
    O4.out.kept ((Kept.refl w4 (fun k => k ≠ B)).set (fun _ p => p rfl) _) (fun b e => by simp [Value.ownBlock] at e; omega)
  have k5 := (KQ.out.weak (Q := fun k => k ≠ B ∧ (Value.slice A0 l.length c0).ownBlock ≠ some k) (fun k p => p.2)).set (B := B) (i := 1) (fun _ p => p.1 rfl) (.slice (some ⟨g, 0, none⟩) (l.length + 1) cap)
  generalize w4.setCell ⟨B, 1, none⟩ (.slice (some ⟨g, 0, none⟩) (l.length + 1) cap) = w5 at *
  obtain ⟨_, _, e5, rd5, _⟩ := o5.form
  simp only [hl1, Value.slice.injEq, true_and] at e5
  obtain ⟨rfl, rfl⟩ := e5
  obtain ⟨A2, c2, s2, _, _, p2, _⟩ := slice_fromK rowK rd5 hl1 (p := i + 1) (by omega) hcap
  obtain ⟨A3, c3, s3, _, _, p3, _⟩ := slice_fromK rowK rd5 hl1 (p := i) (by omega) hcap
  have hm1 : l.length + 1 - (i + 1) = m := by have := HM.out; omega
  have hm2 : l.length + 1 - i = m + 1 := by have := HM.out; omega
  have hm3 : i + 1 + m = (l ++ [(([] : Bs), (0 : Int))]).length := by rw [hl1]; have := HM.out; omega
  have hp : 0 < m → A2 = some ⟨g, (i + 1) * rowK.size, none⟩ ∧ A3 = some ⟨g, i * rowK.size, none⟩ := fun h0 => ⟨by rw [p2 (by omega) _ rfl, addr_lit, Nat.zero_add], by rw [p3 (by omega) _ rfl, addr_lit, Nat.zero_add]⟩
  rw [hm1] at s2
  rw [hm2] at s3
  have s2' : ∀ W, (Instr.slice 93 (.slice (some ⟨g, 0, none⟩) (l.length + 1) cap) (some (.int .i64 ((i : Int) + 1))) none none).run Tryz.prog W = .ok (.slice A2 m c2) W := s2
  have s3' : ∀ W, (Instr.slice 93 (.slice (some ⟨g, 0, none⟩) (l.length + 1) cap) (some (.int .i64 (i : Int))) none none).run Tryz.prog W = .ok (.slice A3 (m + 1) c3) W := s3
  have hwr : IntKind.i64.wrap ((i : Int) + 1) = (i : Int) + 1 := IntWalk.i64_in _ (by omega)
  have d5 := ix_c1 m5
  have d5' : w5.drew.cell? ⟨B, 1, none⟩ = some (.slice (some ⟨g, 0, none⟩) (l.length + 1) cap) := d5
  have O5 : Hid (OwnK rowK w5.drew 0 (.slice (some ⟨g, 0, none⟩) (l ++ [(([] : Bs), (0 : Int))]).length cap) (l ++ [(([] : Bs), (0 : Int))])) := Lib.hid (by rw [hl1]; exact o5)
  have M5 : Hid (AtC w5.drew B (ixC B (.slice (some ⟨g, 0, none⟩) (l.length + 1) cap))) := Lib.hid m5.drew1
  have K5 : Hid (Kept w w5.drew (fun k => k ≠ B ∧ (Value.slice A0 l.length c0).ownBlock ≠ some k)) := Lib.hid ⟨k5.os, k5.tape, k5.output, k5.size, k5.block⟩
  have HL1 := Lib.hid hl1
  have HM3 := Lib.hid hm3
  have HP := Lib.hid hp
  clear o5 m5 k5 s2 s3 p2 p3 hm1 hm2 rd5 hl1 hm3 hp d1 f1 M4 O4
  go_still_tail 13, (by kernel_rfl)
  change wpList _ _ _ _ _ w5.drew
  generalize w5.drew = w6 at *
  refine wpList_shiftK rowK rfl (.tmp 44) (.tmp 50) rfl 0 g cap _ O5.out i m HM3.out A2 A3 c2 c3 rfl rfl HP.out ?_
  intro w7 o7 g7
  have k7 := K5.out.grown g7 (fun k e hk p => by
    have e2 : g = k := by simpa using e
    subst e2
    rcases HF.out with q | q
    · exact p.2 q
    · omega)
  have m7 : AtC w7 B (ixC B (.slice (some ⟨g, 0, none⟩) (l.length + 1) cap)) := ((Kept.refl w6 (fun k => k ≠ g)).grown g7 (fun k e _ p => by simp at e; exact p e.symm)).atC M5.out (fun e => hgB e.symm)
  have e7 := put_row l h n i m (by have := HM.out; omega) ([], 0)
  have hl7 : ((l ++ [(([] : Bs), (0 : Int))]).take (i + 1) ++ ((l ++ [(([] : Bs), (0 : Int))]).drop i).take m).length = l.length + 1 := by have := HM.out; simp; omega
  rw [HL1.out] at o7
  generalize (l ++ [(([] : Bs), (0 : Int))]).take (i + 1) ++ ((l ++ [(([] : Bs), (0 : Int))]).drop i).take m = l7 at *
  rw [← hl7] at o7
  have hil : i < l7.length := by rw [hl7]; omega
  have o8 := o7.rowSet (i := i) hil h n
  rw [hl7, e7] at o8
  have k8 := (k7.set (B := g) (i := i * 2) (fun hg p => by rcases HF.out with q | q; exact p.2 q; omega) (str h)).set (B := g) (i := i * 2 + 1) (fun hg p => by rcases HF.out with q | q; exact p.2 q; omega) (.int .i64 n)
  have m8 := (m7.store (p := ⟨g, i * 2, none⟩) hgB (str h)).store (p := ⟨g, i * 2 + 1, none⟩) hgB (.int .i64 n)
  have r0 := World.ownsRow.cellAt o7 (i * 2) (by show _ < l7.length * 2; rw [hl7]; omega)
  have r1 := World.ownsRow.cellAt o7 (i * 2 + 1) (by show _ < l7.length * 2; rw [hl7]; omega)
  have q0 := (rowsV_at (List.getElem?_eq_getElem hil)).1
  have q1 := (rowsV_at (List.getElem?_eq_getElem hil)).2
  have t0 : w7.cell? ⟨g, i * 2, none⟩ = some _ := r0.trans q0
  have t1 : w7.cell? ⟨g, i * 2 + 1, none⟩ = some _ := r1.trans q1
  have u0 := World.ownsRow.frozenAt o7 (i * 2)
  have u1 := World.ownsRow.frozenAt o7 (i * 2 + 1)
  have d7 := ix_c1 m7
  have i3 : (i : Int) < (l.length : Int) + 1 := by omega
  have O8 := Lib.hid o8
  have M8 := Lib.hid m8
  have K8 := Lib.hid k8
  clear o7 o8 m7 m8 k7 k8 r0 r1 q0 q1 e7 g7 s2' s3' hwr d5 d5' O5 M5 K5 C CM CY
  generalize l7[i] = r7 at *
  go_wp2
  go_ret
  refine ⟨_, rfl, ⟨M8.out, ?_, fun e => hgB (by simpa [Value.ownBlock] using e), HU.out⟩, fun k e => ?_, K8.out⟩
  · unfold OwnP
    have e : (l.take i ++ (h, n) :: l.drop i).length = l.length + 1 := by simp; omega
    have o := O8.out
    unfold OwnK at o
    rw [e] at o ⊢
    exact o
  · have e2 : g = k := by simpa [Value.ownBlock] using e
    subst e2
    exact HF.out
theorem put_any (B : Nat) (v : Value) (l : List Rw) (h : Bs) (n : Int) (w : World) (hA : IxAt w B v l) (hn : l.length ≤ 100000) (hh : h.length ≤ maxLen) :
    Calls Tryz.prog 48 #[ptr B, str h, .int .i64 n] w fun e w' => ∃ v', e = .returned (.int .i64 (putE l h n)) ∧ IxAt w' B v' (putL l h n) ∧ (∀ k, v'.ownBlock = some k → v.ownBlock = some k ∨ w.heap.size ≤ k) ∧ Kept w w' (fun k => k ≠ B ∧ v.ownBlock ≠ some k) := by
  by_cases k : putE l h n = 0
  · have k1 : mayS h = true := by
      cases e : mayS h with
      | true => rfl
      | false => rw [(put_no1 e).1] at k; omega
    have k2 : ¬ n < 0 := fun e => by rw [(put_no2 k1 e).1] at k; omega
    have k3 : hasB l h = false := by
      cases e : hasB l h with
      | false => rfl
      | true => rw [(put_no3 k1 k2 e).1] at k; omega
    rw [(put_yes k1 k2 k3).1, (put_yes k1 k2 k3).2]
    exact put_ok B v l h n w hA hn hh k1 k2 k3
  · refine (put_no B v l h n w hA (by omega) hh k).mono ?_
    rintro e w' ⟨rfl, e2, b⟩
    exact ⟨v, rfl, by rw [e2]; exact hA.then b, fun k h => .inl h, .of_below b⟩
end Go.Proofs.YtlfbjgeobibnhaaGreatDoor.IX
/-
  WALKS: the library's Delete at rows, Take of an index.
-/
namespace Go.Proofs.YtlfbjgeobibnhaaGreatDoor.IX
open Go.RowKit HL
set_option maxRecDepth 100000
set_option linter.unusedVariables false
set_option linter.unusedSimpArgs false

theorem zero_row (W : World) : (zeroValue 96).run Tryz.prog W = .ok (.agg #[.string ByteArray.empty, .int .i64 0]) W := by kernel_rfl
set_option maxHeartbeats 2000000 in
theorem delete_any (g cap m i : Nat) (l : List Rw) (w : World) (hl : l.length = m + 1) (ho : OwnP w 0 (.slice (some ⟨g, 0, none⟩) (m + 1) cap) l) (hi : i ≤ m) (hm : m ≤ 1000000) :
    Calls Tryz.prog 72 #[.slice (some ⟨g, 0, none⟩) (m + 1) cap, .int .i64 (i : Int), .int .i64 ((i : Int) + 1)] w fun e w' =>
      e = .returned (.slice (some ⟨g, 0, none⟩) m cap) ∧ OwnP w' 0 (.slice (some ⟨g, 0, none⟩) m cap) (l.take i ++ l.drop (i + 1)) ∧ Kept w w' (fun k => k ≠ g) := by
  obtain ⟨_, _, e5, rd5, hcap, hmax⟩ := OwnK.form (K := rowK) ho
  simp only [hl, Value.slice.injEq, true_and] at e5
  obtain ⟨rfl, rfl⟩ := e5
  rw [hl] at hcap
  unfold maxLen at hmax
  obtain ⟨A3, c3, s3, _, _, p3, _, q3⟩ := slice_fromK rowK rd5 hl (p := i + 1) (by omega) hcap
  rw [show m + 1 - (i + 1) = m - i by omega] at s3
  have s3' : ∀ W, (Instr.slice 93 (.slice (some ⟨g, 0, none⟩) (m + 1) cap) (some (.int .i64 ((i : Int) + 1))) none none).run Tryz.prog W = .ok (.slice A3 (m - i) c3) W := s3
  have s2' : ∀ W, (Instr.slice 93 (.slice (some ⟨g, 0, none⟩) (m + 1) cap) none (some (.int .i64 (i : Int))) none).run Tryz.prog W = .ok (.slice (some ⟨g, 0, none⟩) i cap) W := fun W => slice_toK rowK (by omega) hcap W
  have hp : i < m → A3 = some ⟨g, (i + 1) * rowK.size, none⟩ := fun h0 => by rw [p3 (by omega) _ rfl, addr_lit, Nat.zero_add]
  have hne : A3 ≠ none := q3 (by simp)
  have hwr : IntKind.i64.wrap ((i : Int) + 1) = (i : Int) + 1 := IntWalk.i64_in _ (by omega)
  have O := Lib.hid ho
  have HP := Lib.hid hp
  have HN := Lib.hid hne
  have HLL := Lib.hid hl
  clear ho hp hne s3 p3 q3 rd5 hl
  go_enter Tryz.func72, Tryz.ntmps72
  go_wp2
  have O' : Hid (OwnK rowK w.drew 0 (.slice (some ⟨g, 0, none⟩) (m + 1) cap) l) := Lib.hid (show OwnK rowK w 0 (.slice (some ⟨g, 0, none⟩) (m + 1) cap) l from O.out)
  go_still_tail 6, (by kernel_rfl)
  change wpList _ _ _ _ _ w.drew
  have k1 : Kept w w.drew (fun k => k ≠ g) := ⟨rfl, rfl, rfl, Nat.le_refl _, fun _ _ _ => rfl⟩
  generalize w.drew = w1 at *
  refine wpList_closeK rowK rfl (.tmp 22) (.tmp 25) rfl 0 g cap l m i HLL.out O'.out hi A3 c3 rfl rfl HP.out HN.out ?_
  intro w2 o2 g2
  obtain ⟨w3, hcl, o3, g3⟩ := run_clearK rowK w2 0 g cap m (cap - m) _ o2 (by omega) _ zero_row rfl (by intro u hu; simp [Value.cells] at hu; rcases hu with rfl | rfl <;> rfl)
  have hcl' : ∀ ty, (Builtin.clear_ #[93] ty #[.slice (some ⟨g, m * 2, none⟩) 1 (cap - m)]).run Tryz.prog w2 = .ok (.tuple #[]) w3 := hcl
  have k3 := (k1.grown g2 (fun k e _ p => by simp at e; exact p e.symm)).grown g3 (fun k e _ p => by simp at e; exact p e.symm)
  have O3 := Lib.hid o3
  have K3 := Lib.hid k3
  clear hcl o2 o3 g2 g3 k1 k3 s2' s3' hwr O'
  go_wp2
  go_ret
  refine ⟨rfl, ?_, K3.out⟩
  have e : (l.take i ++ l.drop (i + 1)).length = m := by have := HLL.out; simp; omega
  have o := O3.out
  unfold OwnK at o
  unfold OwnP
  rw [e] at o ⊢
  exact o
noncomputable def takeE (l : List Rw) (h : Bs) : Int := if hasB l h = true then 0 else 70
noncomputable def takeL (l : List Rw) (h : Bs) : List Rw := if hasB l h = true then del l h else l
set_option maxHeartbeats 2000000 in
theorem take_any (B : Nat) (v : Value) (l : List Rw) (h : Bs) (w : World) (hA : IxAt w B v l) (hn : l.length ≤ 100000) :
    Calls Tryz.prog 53 #[ptr B, str h] w fun e w' => ∃ v', e = .returned (.tuple #[.int .i64 (numOf l h), .int .i64 (takeE l h)]) ∧ IxAt w' B v' (takeL l h) ∧ (∀ k, v'.ownBlock = some k → v.ownBlock = some k ∨ w.heap.size ≤ k) ∧ Kept w w' (fun k => k ≠ B ∧ v.ownBlock ≠ some k) := by
  have C := Lib.hid (seek_any B v l h w hA (by omega))
  have CM := Lib.hid (fun W q => made_any B v W (hA.a.then q))
  have hb : Below w.heap.size w w := Below.refl _ _
  have HA := Lib.hid hA
  cases k : hasB l h with
  | false =>
    have HV := Lib.hid (show takeE l h = 70 ∧ takeL l h = l ∧ numOf l h = 0 by simp [takeE, takeL, numOf, k])
    rw [k] at C
    generalize takeE l h = a at *
    generalize takeL l h = b at *
    generalize numOf l h = c at *
    clear hA k
    go_enter Tryz.func53, Tryz.ntmps53
    go_wp2_with (first
      | (go_at_call 69; ((with_reducible refine C.out.mono ?_); rintro e w1 ⟨rfl, k1⟩; replace hb := bThen hb k1))
      | (go_at_call 66; ((with_reducible refine (CM.out _ hb).mono ?_); rintro e w2 ⟨rfl, rfl⟩)))
    go_ret2
    refine ⟨v, by rw [HV.out.1, HV.out.2.2]; rfl, by rw [HV.out.2.1]; exact HA.out.then hb, fun k h => .inl h, .of_below hb⟩
  | true =>
    obtain ⟨hp, _⟩ := has_at hA.up k
    have HV := Lib.hid (show takeE l h = 0 ∧ takeL l h = l.take (plc l h) ++ l.drop (plc l h + 1) ∧ numOf l h = l[plc l h].2 from ⟨by simp [takeE, k], by simp [takeL, k, del], numOf_t k hp⟩)
    have HU := Lib.hid (up_del hA.up h)
    unfold del at HU
    rw [k] at C
    obtain ⟨m, hm⟩ : ∃ m, l.length = m + 1 := ⟨l.length - 1, by omega⟩
    obtain ⟨g, cap, rfl, _, hgl, hcap⟩ := (OwnP.k.1 hA.r).some_ hm
    have hne : g ≠ B := fun e => hA.ne (by rw [e]; rfl)
    obtain ⟨_, _, e5, rd, _⟩ := hA.rows
    simp only [hm, Value.slice.injEq, true_and] at e5
    obtain ⟨rfl, rfl⟩ := e5
    obtain ⟨b, off, eb, hbb, hcc⟩ := rd.at_ (by omega)
    simp only [Option.some.injEq, Addr.mk.injEq, and_true] at eb
    obtain ⟨rfl, rfl⟩ := eb
    have Q := Lib.hid (hcc _ _ (List.getElem?_eq_getElem hp))
    have CD := Lib.hid (fun W (q : Below w.heap.size w W) (i : Nat) (hi : i ≤ m) => delete_any g cap m i l W hm (hA.then q).r hi (by omega))
    have hi : plc l h ≤ m := by omega
    have HM := Lib.hid hm
    have i1 : (plc l h : Int) < (m : Int) + 1 := by omega
    have hm6 : m ≤ 1000000 := by omega
    clear hA k hm rd hcc hn
    generalize l[plc l h] = r at *
    generalize takeE l h = a at *
    generalize takeL l h = b at *
    generalize numOf l h = c at *
    clear hp
    generalize plc l h = i at *
    go_enter Tryz.func53, Tryz.ntmps53
    go_wp2_with (first
      | (go_at_call 69; ((with_reducible refine C.out.mono ?_); rintro e w1 ⟨rfl, k1⟩; replace hb := bThen hb k1))
      | (go_at_call 66; ((with_reducible refine (CM.out _ hb).mono ?_); rintro e w2 ⟨rfl, rfl⟩; have c1 := ix_c1 (HA.out.then hb).a; have q1 := (hb.cell (p := ⟨g, 0 + i * 2 + 1, none⟩) hbb).trans Q.out.2; rw [Nat.zero_add] at q1))
      | (go_at_call 72; ((with_reducible refine (CD.out _ hb i hi).mono ?_); rintro e w3 ⟨rfl, o3, k3⟩; have m3 := k3.atC (HA.out.then hb).a (fun e => hne e.symm); have c3 := ix_c1 m3; have f3 := m3.f 1; have O3 := Lib.hid o3; have M3 := Lib.hid m3; have K3 := Lib.hid k3; clear o3 m3 k3)))
    go_ret2
    have hmm : (l.take i ++ l.drop (i + 1)).length = m := by have := HM.out; simp; omega
    refine ⟨.slice (some ⟨g, 0, none⟩) m cap, by rw [HV.out.1, HV.out.2.2]; rfl, ?_, fun k e => .inl e, ?_⟩
    · rw [HV.out.2.1]
      have q := M3.out.set (i := 1) (by show 1 < 2; omega) (.slice (some ⟨g, 0, none⟩) m cap)
      refine ⟨q, ?_, fun e => hne (by simpa [Value.ownBlock] using e), HU.out⟩
      exact OwnK.kept (K := rowK) O3.out ((Kept.refl w3 (fun k => k ≠ B)).set (fun _ p => p rfl) _) (fun b e => by simp [Value.ownBlock] at e; omega)
    · refine (((Kept.of_below hb).trans K3.out).weak ?_).set (fun _ p => p.1 rfl) _
      intro k p e
      exact p.2 (by rw [e]; rfl)
end Go.Proofs.YtlfbjgeobibnhaaGreatDoor.IX
