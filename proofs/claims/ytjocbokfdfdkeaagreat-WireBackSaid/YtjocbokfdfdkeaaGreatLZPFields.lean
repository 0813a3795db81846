/-
  WALKS: an object's twelve fields, as a row of what writes and reads them.
-/
import Derived.Test.YtjocbokfdfdkeaaGreatLZPPart
import Derived.Test.YtjocbokfdfdkeaaGreatLZ3
import Derived.Deep.RegionHeld3
import Derived.Shelf.Abstract
namespace Go.Proofs.YtjocbokfdfdkeaaGreat.PX
open Go.RowKit HL
open IX (ptr El cellsK cellsK_at cellsK_len OwnK RdK Kept)
open YX (numB rdU rdB rdT rdS rdI addW intN natI rest told WAt WPt Wr RAt vS vU vI)
set_option maxRecDepth 100000
set_option linter.unusedVariables false
set_option linter.unusedSimpArgs false

/-- A field's row element. -/
structure Fd where
  z : Bool
  p1 : Nat
  p2 : Nat
  b0 : Nat
  b1 : Nat
  b2 : Nat
abbrev fdC (f : Fd) : List Value := [.bool f.z, .func (.func f.p1) #[] #[ptr f.b1, ptr f.b0], .func (.func f.p2) #[] #[ptr f.b2, ptr f.b0]]
def fvV : Fv → Value
  | .s t => str t
  | .n k => .int .u8 (k : Int)
  | .i v => .int .i64 v
  | .b t => .bool t
theorem cells_fv (o : Ob) {i : Nat} (h : i < 12) : (obCells o)[i + 2]? = some (fvV (fv o i)) := by
  have hi : i = 0 ∨ i = 1 ∨ i = 2 ∨ i = 3 ∨ i = 4 ∨ i = 5 ∨ i = 6 ∨ i = 7 ∨ i = 8 ∨ i = 9 ∨ i = 10 ∨ i = 11 := by omega
  rcases hi with rfl | rfl | rfl | rfl | rfl | rfl | rfl | rfl | rfl | rfl | rfl | rfl <;> simp [fv, fvL, fvV, obCells, str, tx]
theorem cells_set (o : Ob) {i : Nat} (h : i < 12) (s : Option Bs) : (obCells o).setIfInBounds (i + 2) (fvV (rdV i s).1) = obCells (setF o i (rdV i s).1) := by
  have hi : i = 0 ∨ i = 1 ∨ i = 2 ∨ i = 3 ∨ i = 4 ∨ i = 5 ∨ i = 6 ∨ i = 7 ∨ i = 8 ∨ i = 9 ∨ i = 10 ∨ i = 11 := by omega
  rcases hi with rfl | rfl | rfl | rfl | rfl | rfl | rfl | rfl | rfl | rfl | rfl | rfl <;> rfl
def PutOk (w : World) (Bo : Nat) (o : Ob) (i : Nat) (f : Fd) : Prop := ∀ W Bw s, Kept w W (· ≠ Bw) → Bw < Bo → WAt W Bw s → Calls Tryz.prog f.p1 #[ptr Bw, ptr f.b1, ptr f.b0] W fun e w' => Wrt W Bw (fvW s (fv o i)) e w'
def GetOk (w : World) (Bo : Nat) (i : Nat) (f : Fd) : Prop := ∀ W Br s C, Kept w W (fun j => j ≠ Br ∧ j ≠ Bo) → Br < Bo → RAt W Br s → AtC W Bo C → C.size = 14 → Calls Tryz.prog f.p2 #[ptr Br, ptr f.b2, ptr f.b0] W fun e w' => e = .returned (.tuple #[]) ∧ RAt w' Br (rdV i s).2 ∧ AtC w' Bo (C.setIfInBounds (i + 2) (fvV (rdV i s).1)) ∧ Kept W w' (fun j => j ≠ Br ∧ j ≠ Bo)
def Ent (f : Nat) : Prop := ∀ (args : Array Value) (w : World), (callFunc f args).run Tryz.prog w = .ok (.enter f args) w
structure FdOk (w : World) (Bo : Nat) (o : Ob) (i : Nat) (f : Fd) : Prop where
  z : f.z = fvSet (fv o i)
  e1 : Ent f.p1
  e2 : Ent f.p2
  put : PutOk w Bo o i f
  get : GetOk w Bo i f
theorem FdOk.below {w w' : World} {Bo i : Nat} {o : Ob} {f : Fd} (h : FdOk w Bo o i f) (k : Below w.heap.size w w') : FdOk w' Bo o i f :=
  ⟨h.z, h.e1, h.e2, fun W Bw s k2 => h.put W Bw s (Kept.trans (.of_below k) k2), fun W Br s C k2 => h.get W Br s C (Kept.trans (.of_below k) k2)⟩
/-- The fields so far. -/
def FL (w : World) (Bo : Nat) (o : Ob) (l : List Fd) : Prop := ∀ i f, l[i]? = some f → FdOk w Bo o i f
theorem FL.nil (w : World) (Bo : Nat) (o : Ob) : FL w Bo o [] := fun i f h => by simp at h
theorem FL.below {w w' : World} {Bo : Nat} {o : Ob} {l : List Fd} (h : FL w Bo o l) (k : Below w.heap.size w w') : FL w' Bo o l := fun i f e => (h i f e).below k
theorem FL.snoc {w : World} {Bo : Nat} {o : Ob} {l : List Fd} (h : FL w Bo o l) {f : Fd} {n : Nat} (hn : n = l.length) (hf : FdOk w Bo o n f) : FL w Bo o (l ++ [f]) := fun i g e => by
  subst hn
  rw [List.getElem?_append] at e
  split at e
  · exact h i g e
  · rename_i q
    have : i = l.length := by
      have := List.getElem?_eq_some_iff.1 e
      obtain ⟨a, _⟩ := this
      simp at a; omega
    subst this
    simp at e; subst e; exact hf
/-! ## Each field -/
theorem ok_s {w w1 : World} {Bo i : Nat} {o : Ob} {t : Bs} (hv : fv o i = .s t) (hr : ∀ s, rdV i s = (.s (told [] rdS s), rest rdS s)) (hx : t.length ≤ 900000) (hBo : AtC w Bo (obCells o)) (hi : i < 12) {b0 b1 b2 : Nat} (h0 : w.heap.size ≤ b0) (h1 : w.heap.size ≤ b1) (h2 : w.heap.size ≤ b2)
    (c0 : w1.cell? ⟨b0, 0, none⟩ = some (pa Bo (i + 2))) (c1 : w1.cell? ⟨b1, 0, none⟩ = some (fn 81)) (c2 : w1.cell? ⟨b2, 0, none⟩ = some (fn 89)) (k : Below w.heap.size w w1) :
    FdOk w1 Bo o i ⟨decide (t ≠ []), 144, 145, b0, b1, b2⟩ := by
  have l0 := World.block_lt_of_cell? _ _ c0; have l1 := World.block_lt_of_cell? _ _ c1; have l2 := World.block_lt_of_cell? _ _ c2
  have m := hBo.then k
  have hb := hBo.lt
  refine ⟨by rw [hv]; rfl, enters_of Tryz.func144 (by kernel_rfl) rfl, enters_of Tryz.func145 (by kernel_rfl) rfl, fun W Bw s kw hlt hw => ?_, fun W Br s C kw hlt hr2 hC h14 => ?_⟩
  · rw [hv]
    exact put_s Bw b0 b1 Bo (i + 2) t hx s W hw ((kw.cell l1 (by show b1 ≠ Bw; omega)).trans c1) ((kw.cell l0 (by show b0 ≠ Bw; omega)).trans c0) ((kw.cell m.lt (by show Bo ≠ Bw; omega)).trans ((m.c (i + 2)).trans (by rw [cells_fv o hi, hv]; rfl)))
  · rw [hr]
    exact get_s Br b0 b2 Bo (i + 2) s C W hr2 ((kw.cell l2 (by show b2 ≠ Br ∧ b2 ≠ Bo; omega)).trans c2) ((kw.cell l0 (by show b0 ≠ Br ∧ b0 ≠ Bo; omega)).trans c0) hC (by rw [h14]; omega) hlt (by omega)
theorem ok_n {w w1 : World} {Bo i : Nat} {o : Ob} {t : Nat} (hv : fv o i = .n t) (hr : ∀ s, rdV i s = (.n (told 0 rdB s), rest rdB s)) (hx : t < 256) (hBo : AtC w Bo (obCells o)) (hi : i < 12) {b0 b1 b2 : Nat} (h0 : w.heap.size ≤ b0) (h1 : w.heap.size ≤ b1) (h2 : w.heap.size ≤ b2)
    (c0 : w1.cell? ⟨b0, 0, none⟩ = some (pa Bo (i + 2))) (c1 : w1.cell? ⟨b1, 0, none⟩ = some (fn 80)) (c2 : w1.cell? ⟨b2, 0, none⟩ = some (fn 88)) (k : Below w.heap.size w w1) :
    FdOk w1 Bo o i ⟨decide (t ≠ 0), 146, 147, b0, b1, b2⟩ := by
  have l0 := World.block_lt_of_cell? _ _ c0; have l1 := World.block_lt_of_cell? _ _ c1; have l2 := World.block_lt_of_cell? _ _ c2
  have m := hBo.then k
  have hb := hBo.lt
  refine ⟨by rw [hv]; rfl, enters_of Tryz.func146 (by kernel_rfl) rfl, enters_of Tryz.func147 (by kernel_rfl) rfl, fun W Bw s kw hlt hw => ?_, fun W Br s C kw hlt hr2 hC h14 => ?_⟩
  · rw [hv]
    exact put_n Bw b0 b1 Bo (i + 2) t hx s W hw ((kw.cell l1 (by show b1 ≠ Bw; omega)).trans c1) ((kw.cell l0 (by show b0 ≠ Bw; omega)).trans c0) ((kw.cell m.lt (by show Bo ≠ Bw; omega)).trans ((m.c (i + 2)).trans (by rw [cells_fv o hi, hv]; rfl)))
  · rw [hr]
    exact get_n Br b0 b2 Bo (i + 2) s C W hr2 ((kw.cell l2 (by show b2 ≠ Br ∧ b2 ≠ Bo; omega)).trans c2) ((kw.cell l0 (by show b0 ≠ Br ∧ b0 ≠ Bo; omega)).trans c0) hC (by rw [h14]; omega) hlt (by omega)
theorem ok_i {w w1 : World} {Bo i : Nat} {o : Ob} {t : Int} (hv : fv o i = .i t) (hr : ∀ s, rdV i s = (.i (told 0 rdI s), rest rdI s)) (hx : -9223372036854775808 ≤ t ∧ t < 9223372036854775808) (hBo : AtC w Bo (obCells o)) (hi : i < 12) {b0 b1 b2 : Nat} (h0 : w.heap.size ≤ b0) (h1 : w.heap.size ≤ b1) (h2 : w.heap.size ≤ b2)
    (c0 : w1.cell? ⟨b0, 0, none⟩ = some (pa Bo (i + 2))) (c1 : w1.cell? ⟨b1, 0, none⟩ = some (fn 85)) (c2 : w1.cell? ⟨b2, 0, none⟩ = some (fn 92)) (k : Below w.heap.size w w1) :
    FdOk w1 Bo o i ⟨decide (t ≠ 0), 148, 149, b0, b1, b2⟩ := by
  have l0 := World.block_lt_of_cell? _ _ c0; have l1 := World.block_lt_of_cell? _ _ c1; have l2 := World.block_lt_of_cell? _ _ c2
  have m := hBo.then k
  have hb := hBo.lt
  refine ⟨by rw [hv]; rfl, enters_of Tryz.func148 (by kernel_rfl) rfl, enters_of Tryz.func149 (by kernel_rfl) rfl, fun W Bw s kw hlt hw => ?_, fun W Br s C kw hlt hr2 hC h14 => ?_⟩
  · rw [hv]
    exact put_i Bw b0 b1 Bo (i + 2) t hx s W hw ((kw.cell l1 (by show b1 ≠ Bw; omega)).trans c1) ((kw.cell l0 (by show b0 ≠ Bw; omega)).trans c0) ((kw.cell m.lt (by show Bo ≠ Bw; omega)).trans ((m.c (i + 2)).trans (by rw [cells_fv o hi, hv]; rfl)))
  · rw [hr]
    exact get_i Br b0 b2 Bo (i + 2) s C W hr2 ((kw.cell l2 (by show b2 ≠ Br ∧ b2 ≠ Bo; omega)).trans c2) ((kw.cell l0 (by show b0 ≠ Br ∧ b0 ≠ Bo; omega)).trans c0) hC (by rw [h14]; omega) hlt (by omega)
theorem ok_b {w w1 : World} {Bo i : Nat} {o : Ob} {t : Bool} (hv : fv o i = .b t) (hr : ∀ s, rdV i s = (.b true, s)) (hBo : AtC w Bo (obCells o)) (hi : i < 12) {b0 b1 b2 : Nat} (h0 : w.heap.size ≤ b0) (h1 : w.heap.size ≤ b1) (h2 : w.heap.size ≤ b2)
    (c0 : w1.cell? ⟨b0, 0, none⟩ = some (pa Bo (i + 2))) (c1 : w1.cell? ⟨b1, 0, none⟩ = some (fn 142)) (c2 : w1.cell? ⟨b2, 0, none⟩ = some (fn 143)) (k : Below w.heap.size w w1) :
    FdOk w1 Bo o i ⟨t, 150, 151, b0, b1, b2⟩ := by
  have l0 := World.block_lt_of_cell? _ _ c0; have l1 := World.block_lt_of_cell? _ _ c1; have l2 := World.block_lt_of_cell? _ _ c2
  have m := hBo.then k
  have hb := hBo.lt
  refine ⟨by rw [hv]; rfl, enters_of Tryz.func150 (by kernel_rfl) rfl, enters_of Tryz.func151 (by kernel_rfl) rfl, fun W Bw s kw hlt hw => ?_, fun W Br s C kw hlt hr2 hC h14 => ?_⟩
  · rw [hv]
    exact put_b Bw b0 b1 Bo (i + 2) t s W hw ((kw.cell l1 (by show b1 ≠ Bw; omega)).trans c1) ((kw.cell l0 (by show b0 ≠ Bw; omega)).trans c0) ((kw.cell m.lt (by show Bo ≠ Bw; omega)).trans ((m.c (i + 2)).trans (by rw [cells_fv o hi, hv]; rfl)))
  · rw [hr]
    exact get_b Br b0 b2 Bo (i + 2) s C W hr2 ((kw.cell l2 (by show b2 ≠ Br ∧ b2 ≠ Bo; omega)).trans c2) ((kw.cell l0 (by show b0 ≠ Br ∧ b0 ≠ Bo; omega)).trans c0) hC (by rw [h14]; omega) hlt (by omega)
/-- What each of text, small, number, flag comes to, at field i. -/
def Fc (w : World) (Bo : Nat) (o : Ob) (i p1 p2 : Nat) (e : Ending) (w' : World) : Prop := ∃ b0 b1 b2, FDv (fvSet (fv o i)) p1 p2 b0 b1 b2 e ∧ FdOk w' Bo o i ⟨fvSet (fv o i), p1, p2, b0, b1, b2⟩ ∧ Below w.heap.size w w'
theorem fc_s {w : World} {Bo i : Nat} {o : Ob} {t : Bs} (hv : fv o i = .s t) (hr : ∀ s, rdV i s = (.s (told [] rdS s), rest rdS s)) (hx : t.length ≤ 900000) (hi : i < 12) (hB : AtC w Bo (obCells o)) :
    Calls Tryz.prog 134 #[pa Bo (i + 2)] w fun e w' => Fc w Bo o i 144 145 e w' := by
  refine (text_any Bo (i + 2) t w ((hB.c _).trans (by rw [cells_fv o hi, hv]; rfl))).mono fun e w' ⟨b0, b1, b2, hf, h0, h1, h2, c0, c1, c2, k⟩ => ⟨b0, b1, b2, by rw [hv]; exact hf, ?_, k⟩
  have := ok_s hv hr hx hB hi h0 h1 h2 c0 c1 c2 k
  rw [hv]; exact this
theorem fc_n {w : World} {Bo i : Nat} {o : Ob} {t : Nat} (hv : fv o i = .n t) (hr : ∀ s, rdV i s = (.n (told 0 rdB s), rest rdB s)) (hx : t < 256) (hi : i < 12) (hB : AtC w Bo (obCells o)) :
    Calls Tryz.prog 135 #[pa Bo (i + 2)] w fun e w' => Fc w Bo o i 146 147 e w' := by
  refine (small_any Bo (i + 2) t w ((hB.c _).trans (by rw [cells_fv o hi, hv]; rfl))).mono fun e w' ⟨b0, b1, b2, hf, h0, h1, h2, c0, c1, c2, k⟩ => ⟨b0, b1, b2, by rw [hv]; exact hf, ?_, k⟩
  have := ok_n hv hr hx hB hi h0 h1 h2 c0 c1 c2 k
  rw [hv]; exact this
theorem fc_i {w : World} {Bo i : Nat} {o : Ob} {t : Int} (hv : fv o i = .i t) (hr : ∀ s, rdV i s = (.i (told 0 rdI s), rest rdI s)) (hx : -9223372036854775808 ≤ t ∧ t < 9223372036854775808) (hi : i < 12) (hB : AtC w Bo (obCells o)) :
    Calls Tryz.prog 136 #[pa Bo (i + 2)] w fun e w' => Fc w Bo o i 148 149 e w' := by
  refine (number_any Bo (i + 2) t w ((hB.c _).trans (by rw [cells_fv o hi, hv]; rfl))).mono fun e w' ⟨b0, b1, b2, hf, h0, h1, h2, c0, c1, c2, k⟩ => ⟨b0, b1, b2, by rw [hv]; exact hf, ?_, k⟩
  have := ok_i hv hr hx hB hi h0 h1 h2 c0 c1 c2 k
  rw [hv]; exact this
theorem fc_b {w : World} {Bo i : Nat} {o : Ob} {t : Bool} (hv : fv o i = .b t) (hr : ∀ s, rdV i s = (.b true, s)) (hi : i < 12) (hB : AtC w Bo (obCells o)) :
    Calls Tryz.prog 137 #[pa Bo (i + 2)] w fun e w' => Fc w Bo o i 150 151 e w' := by
  refine (flag_any Bo (i + 2) t w ((hB.c _).trans (by rw [cells_fv o hi, hv]; rfl))).mono fun e w' ⟨b0, b1, b2, hf, h0, h1, h2, c0, c1, c2, k⟩ => ⟨b0, b1, b2, by rw [hv]; exact hf, ?_, k⟩
  have := ok_b hv hr hB hi h0 h1 h2 c0 c1 c2 k
  rw [hv]; exact this
/-! ## The row -/
noncomputable def fdK : El Fd where
  T := 171
  e := 177
  size := 3
  bytes := (IX.infoOf 177).bytes
  z := .agg #[.bool false, .nilFunc, .nilFunc]
  i := IX.infoOf 177
  enc := fdC
  el := by kernel_rfl
  ht := Tryz.underlying171
  hi := by kernel_rfl
  hz := by kernel_rfl
  hs := by kernel_rfl
  hb := rfl
  hzs := rfl
  pos := by decide
  len := fun _ => rfl
  one := fun _ u hu => by simp at hu; rcases hu with rfl | rfl | rfl <;> rfl
  small := of_decide_eq_true (by kernel_rfl)
set_option maxHeartbeats 8000000 in
theorem fields_any (Bo : Nat) (o : Ob) (w : World) (hB : AtC w Bo (obCells o)) (hF : Fine o) :
    Calls Tryz.prog 123 #[ptr Bo] w fun e w' => ∃ g l, e = .returned (.slice (some ⟨g, 0, none⟩) 12 12) ∧ l.length = 12 ∧ FL w' Bo o l ∧ w.heap.size ≤ g ∧ RdK fdK w' w'.heap.size (some ⟨g, 0, none⟩) l ∧ Below w.heap.size w w' := by
  have KB : Hid (∀ W, Below w.heap.size w W → AtC W Bo (obCells o)) := Lib.hid (fun W k => hB.then k)
  have C0 := Lib.hid (fun W (k : Below w.heap.size w W) => fc_s (i := 0) (o := o) rfl (fun _ => rfl) (by have := hF.tp; omega) (by decide) (KB.out W k))
  have C1 := Lib.hid (fun W (k : Below w.heap.size w W) => fc_n (i := 1) (o := o) rfl (fun _ => rfl) hF.typ (by decide) (KB.out W k))
  have C2 := Lib.hid (fun W (k : Below w.heap.size w W) => fc_s (i := 2) (o := o) rfl (fun _ => rfl) (by have := hF.tr; omega) (by decide) (KB.out W k))
  have C3 := Lib.hid (fun W (k : Below w.heap.size w W) => fc_i (i := 3) (o := o) rfl (fun _ => rfl) hF.lo (by decide) (KB.out W k))
  have C4 := Lib.hid (fun W (k : Below w.heap.size w W) => fc_i (i := 4) (o := o) rfl (fun _ => rfl) hF.hi (by decide) (KB.out W k))
  have C5 := Lib.hid (fun W (k : Below w.heap.size w W) => fc_n (i := 5) (o := o) rfl (fun _ => rfl) hF.digits (by decide) (KB.out W k))
  have C6 := Lib.hid (fun W (k : Below w.heap.size w W) => fc_b (i := 6) (o := o) rfl (fun _ => rfl) (by decide) (KB.out W k))
  have C7 := Lib.hid (fun W (k : Below w.heap.size w W) => fc_b (i := 7) (o := o) rfl (fun _ => rfl) (by decide) (KB.out W k))
  have C8 := Lib.hid (fun W (k : Below w.heap.size w W) => fc_i (i := 8) (o := o) rfl (fun _ => rfl) hF.value (by decide) (KB.out W k))
  have C9 := Lib.hid (fun W (k : Below w.heap.size w W) => fc_i (i := 9) (o := o) rfl (fun _ => rfl) hF.low (by decide) (KB.out W k))
  have C10 := Lib.hid (fun W (k : Below w.heap.size w W) => fc_i (i := 10) (o := o) rfl (fun _ => rfl) hF.high (by decide) (KB.out W k))
  have C11 := Lib.hid (fun W (k : Below w.heap.size w W) => fc_n (i := 11) (o := o) rfl (fun _ => rfl) hF.assoc (by decide) (KB.out W k))
  have hb0 : Below w.heap.size w w.drew := YX.bD1_ w
  clear hB hF
  go_enter Tryz.func123, Tryz.ntmps123
  go_wp2_with fail
  go_region_held3 (fun w' => True ∧ Below w.heap.size w w')
    (first | with_reducible assumption | with_reducible exact ⟨trivial, hb0⟩ | with_reducible exact ⟨trivial, keepD (by assumption) k3⟩ | with_reducible exact ⟨trivial, bAl (‹_ ∧ Below w.heap.size w _›).2 _⟩ | exact ⟨trivial, bAl (‹_ ∧ Below w.heap.size w _›).2 _⟩ | exact ⟨trivial, bAl (keepD (by assumption) k3) _⟩ | (refine ⟨?_, ?_⟩; trivial; exact bAl (‹_ ∧ Below w.heap.size w _›).2 _))
    (first
    | (go_at_call 134; (with_reducible refine (C0.out _ (‹_ ∧ Below w.heap.size w _›).2).mono ?_); rintro e w1 ⟨x0, y0, v0, ⟨⟩, f0, k3⟩; have E := Lib.hid (FL.snoc (n := 0) (FL.nil _ Bo o) rfl f0); clear f0)
    | (go_at_call 135; (with_reducible refine (C1.out _ (‹_ ∧ Below w.heap.size w _›).2).mono ?_); rintro e w2 ⟨x1, y1, v1, ⟨⟩, f1, k3⟩; have E := Lib.hid (FL.snoc (n := 1) (E.out.below k3) rfl f1); clear f1)
    | (go_at_call 134; (with_reducible refine (C2.out _ (‹_ ∧ Below w.heap.size w _›).2).mono ?_); rintro e w3 ⟨x2, y2, v2, ⟨⟩, f2, k3⟩; have E := Lib.hid (FL.snoc (n := 2) (E.out.below k3) rfl f2); clear f2)
    | (go_at_call 136; (with_reducible refine (C3.out _ (‹_ ∧ Below w.heap.size w _›).2).mono ?_); rintro e w4 ⟨x3, y3, v3, ⟨⟩, f3, k3⟩; have E := Lib.hid (FL.snoc (n := 3) (E.out.below k3) rfl f3); clear f3)
    | (go_at_call 136; (with_reducible refine (C4.out _ (‹_ ∧ Below w.heap.size w _›).2).mono ?_); rintro e w5 ⟨x4, y4, v4, ⟨⟩, f4, k3⟩; have E := Lib.hid (FL.snoc (n := 4) (E.out.below k3) rfl f4); clear f4)
    | (go_at_call 135; (with_reducible refine (C5.out _ (‹_ ∧ Below w.heap.size w _›).2).mono ?_); rintro e w6 ⟨x5, y5, v5, ⟨⟩, f5, k3⟩; have E := Lib.hid (FL.snoc (n := 5) (E.out.below k3) rfl f5); clear f5)
    | (go_at_call 137; (with_reducible refine (C6.out _ (‹_ ∧ Below w.heap.size w _›).2).mono ?_); rintro e w7 ⟨x6, y6, v6, ⟨⟩, f6, k3⟩; have E := Lib.hid (FL.snoc (n := 6) (E.out.below k3) rfl f6); clear f6)
    | (go_at_call 137; (with_reducible refine (C7.out _ (‹_ ∧ Below w.heap.size w _›).2).mono ?_); rintro e w8 ⟨x7, y7, v7, ⟨⟩, f7, k3⟩; have E := Lib.hid (FL.snoc (n := 7) (E.out.below k3) rfl f7); clear f7)
    | (go_at_call 136; (with_reducible refine (C8.out _ (‹_ ∧ Below w.heap.size w _›).2).mono ?_); rintro e w9 ⟨x8, y8, v8, ⟨⟩, f8, k3⟩; have E := Lib.hid (FL.snoc (n := 8) (E.out.below k3) rfl f8); clear f8)
    | (go_at_call 136; (with_reducible refine (C9.out _ (‹_ ∧ Below w.heap.size w _›).2).mono ?_); rintro e w10 ⟨x9, y9, v9, ⟨⟩, f9, k3⟩; have E := Lib.hid (FL.snoc (n := 9) (E.out.below k3) rfl f9); clear f9)
    | (go_at_call 136; (with_reducible refine (C10.out _ (‹_ ∧ Below w.heap.size w _›).2).mono ?_); rintro e w11 ⟨x10, y10, v10, ⟨⟩, f10, k3⟩; have E := Lib.hid (FL.snoc (n := 10) (E.out.below k3) rfl f10); clear f10)
    | (go_at_call 135; (with_reducible refine (C11.out _ (‹_ ∧ Below w.heap.size w _›).2).mono ?_); rintro e w12 ⟨x11, y11, v11, ⟨⟩, f11, k3⟩; have SZ := Lib.hid (bThen (‹_ ∧ Below w.heap.size w _›).2 k3); have E := Lib.hid (FL.snoc (n := 11) (E.out.below k3) rfl f11); clear f11))
  go_wp2
  go_ret
  have hsz := SZ.out.size
  refine ⟨_, _, rfl, rfl, E.out.below (bAl (Below.refl _ _) _), hsz, .inr ⟨_, 0, rfl, by simp, fun m u hu => ?_⟩, bAl SZ.out _⟩
  rw [Nat.zero_add]
  exact ((AtC.new _ _ _).c m).trans (Array.getElem?_toList.symm.trans hu)
end Go.Proofs.YtjocbokfdfdkeaaGreat.PX
