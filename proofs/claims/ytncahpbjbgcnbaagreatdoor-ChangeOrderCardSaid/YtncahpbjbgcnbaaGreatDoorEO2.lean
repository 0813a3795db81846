/-
  PLAIN: an object's fields; the block of a call's own that holds one.
-/
import Derived.Test.YtncahpbjbgcnbaaGreatDoorEO0
import Derived.WalkKit
import Derived.Below
import Derived.Lib.Hide
import Derived.IntWalk
import Derived.Laws.World
import Derived.Test.YtncahpbjbgcnbaaGreatDoorEO1
namespace Go.Proofs.YtncahpbjbgcnbaaGreatDoor
open Go.RowKit
set_option maxRecDepth 100000
set_option linter.unusedVariables false

/-- An object's fields, in the order of its type. -/
structure Ob where
  handle : ByteArray
  kind : Nat
  parent : ByteArray
  typ : Nat
  ref : ByteArray
  lo : Int
  hi : Int
  digits : Nat
  on : Bool
  has : Bool
  value : Int
  low : Int
  high : Int
  assoc : Nat
abbrev obCells (o : Ob) : Array Value := #[.string o.handle, .int .u8 o.kind, .string o.parent, .int .u8 o.typ, .string o.ref, .int .i64 o.lo, .int .i64 o.hi, .int .u8 o.digits, .bool o.on, .bool o.has, .int .i64 o.value, .int .i64 o.low, .int .i64 o.high, .int .u8 o.assoc]
abbrev ob (o : Ob) : Value := .agg #[.string o.handle, .int .u8 o.kind, .string o.parent, .int .u8 o.typ, .string o.ref, .int .i64 o.lo, .int .i64 o.hi, .int .u8 o.digits, .bool o.on, .bool o.has, .int .i64 o.value, .int .i64 o.low, .int .i64 o.high, .int .u8 o.assoc]
theorem ret_ob {fn : Func} {R : Ending → World → Prop} {act : Act} {W : World} {B : Nat} {o : Ob} {p : Tmp} (hr : fn.results = #[.cell p 35]) (hp : act.tmps.getD p undef = .pointer (some ⟨B, 0, none⟩)) (hd : act.defers = [])
    (h : AtC W B (obCells o)) (hR : R (.returned (ob o)) W) : bodyPost Tryz.prog fn R .ret act W := by
  refine bodyPost_ret (v := ob o) ?_ hd hR
  have h0 := h.c
  simp at hp
  simp only [results, hr]
  simp [Sem.run_bind, Result.andThen, hp, go_sem, h0]
end Go.Proofs.YtncahpbjbgcnbaaGreatDoor
/-
  WALKS: the document's Refers, Desc, State, Bare, Only.
-/
namespace Go.Proofs.YtncahpbjbgcnbaaGreatDoor
open Go.RowKit
set_option maxRecDepth 100000
set_option linter.unusedVariables false

def descOf (o f : Ob) : Ob := { f with handle := o.handle, kind := o.kind, on := o.on, has := o.has, value := o.value, low := o.low, high := o.high, assoc := o.assoc }
def stateOf (o f : Ob) : Ob := { o with on := f.on, has := f.has, value := f.value, low := f.low, high := f.high, assoc := f.assoc }
def zeroOb : Ob := ⟨⟨#[]⟩, 0, ⟨#[]⟩, 0, ⟨#[]⟩, 0, 0, 0, false, false, 0, 0, 0, 0⟩
set_option maxHeartbeats 1000000 in
theorem refDesc_any (o f : Ob) (w : World) : Calls Tryz.prog 38 #[ob o, ob f] w fun e w' => e = .returned (ob (descOf o f)) ∧ Below w.heap.size w w' := by
  have hb : Below w.heap.size w w := Below.refl _ _
  go_enter Tryz.func38, Tryz.ntmps38
  go_wp2
  go_region
  go_wp2
  exact ret_ob rfl rfl rfl (AtC.drew1 (AtC.al (AtC.newAt (by simp)) _)) ⟨rfl, (bAl (bAl (bAl (bAl hb _) _) _) _).drew⟩
theorem refState_any (o f : Ob) (w : World) : Calls Tryz.prog 39 #[ob o, ob f] w fun e w' => e = .returned (ob (stateOf o f)) ∧ Below w.heap.size w w' := by
  have hb : Below w.heap.size w w := Below.refl _ _
  have CD := fun W => Lib.hid (refDesc_any f o W)
  go_enter Tryz.func39, Tryz.ntmps39
  go_wp2_with (go_at_call 38; ((with_reducible refine (CD _).out.mono ?_); rintro e w1 ⟨rfl, k1⟩; replace hb := bThen (bAl (bAl (bAl hb _) _) _) k1; have mO := (((AtC.new _ _ _).al _).al _).then k1; have mF := ((AtC.new _ _ _).al _).then k1; have mR := (AtC.new _ _ _).then k1; simp at mO mF mR; have oc := mO.c; have ol := mO.lt; have rc := mR.c; have rf := mR.f; have rl := mR.lt))
  exact ret_ob rfl rfl rfl (AtC.al (AtC.fill mR rfl _ _ _ _ _ _ _ _ _ _ _ _ _ _) _) ⟨rfl, bAl (bFill hb (by omega) _ _ _ _ _ _ _ _ _ _ _ _ _ _) _⟩
end Go.Proofs.YtncahpbjbgcnbaaGreatDoor
/-
  PLAIN: rows of objects as a list (for the layers from wf on): a kind of element of 14 cells.
-/
namespace Go.Proofs.YtncahpbjbgcnbaaGreatDoor.WX
open Go.RowKit HL
open IX (ptr El cellsK cellsK_at OwnK RdK strK)
set_option maxRecDepth 100000
set_option linter.unusedVariables false
set_option linter.unusedSimpArgs false
abbrev hb (o : Ob) : Bs := o.handle.data.toList
abbrev pb (o : Ob) : Bs := o.parent.data.toList
abbrev rb (o : Ob) : Bs := o.ref.data.toList
noncomputable def obK : El Ob where
  T := 22
  e := 35
  size := 14
  bytes := (IX.infoOf 35).bytes
  z := ob zeroOb
  i := IX.infoOf 35
  enc := fun o => (obCells o).toList
  el := by kernel_rfl
  ht := Tryz.underlying22
  hi := by kernel_rfl
  hz := by kernel_rfl
  hs := by kernel_rfl
  hb := rfl
  hzs := rfl
  pos := by decide
  len := fun _ => rfl
  one := fun _ u hu => by simp at hu; rcases hu with rfl | rfl | rfl | rfl | rfl | rfl | rfl | rfl | rfl | rfl | rfl | rfl | rfl | rfl <;> rfl
  small := of_decide_eq_true (by kernel_rfl)
theorem obs_at {w : World} {B : Nat} {A : Option Addr} {l : List Ob} (h : RdK obK w B A l) (h0 : 0 < l.length) : ∃ b off, A = some ⟨b, off, none⟩ ∧ b < B ∧ ∀ j o, l[j]? = some o → w.cell? ⟨b, off + j * 14, none⟩ = some (.string o.handle) ∧ w.cell? ⟨b, off + j * 14 + 1, none⟩ = some (.int .u8 o.kind) ∧ w.cell? ⟨b, off + j * 14 + 2, none⟩ = some (.string o.parent) ∧ w.cell? ⟨b, off + j * 14 + 3, none⟩ = some (.int .u8 o.typ) ∧ w.cell? ⟨b, off + j * 14 + 4, none⟩ = some (.string o.ref) ∧ w.cell? ⟨b, off + j * 14 + 5, none⟩ = some (.int .i64 o.lo) ∧ w.cell? ⟨b, off + j * 14 + 6, none⟩ = some (.int .i64 o.hi) ∧ w.cell? ⟨b, off + j * 14 + 7, none⟩ = some (.int .u8 o.digits) ∧ w.cell? ⟨b, off + j * 14 + 8, none⟩ = some (.bool o.on) ∧ w.cell? ⟨b, off + j * 14 + 9, none⟩ = some (.bool o.has) ∧ w.cell? ⟨b, off + j * 14 + 10, none⟩ = some (.int .i64 o.value) ∧ w.cell? ⟨b, off + j * 14 + 11, none⟩ = some (.int .i64 o.low) ∧ w.cell? ⟨b, off + j * 14 + 12, none⟩ = some (.int .i64 o.high) ∧ w.cell? ⟨b, off + j * 14 + 13, none⟩ = some (.int .u8 o.assoc) := by
  rcases h with rfl | ⟨b, off, e, hb, hc⟩
  · simp at h0
  · refine ⟨b, off, e, hb, fun j o hx => ?_⟩
    have q : ∀ (i : Nat) (u : Value), (obCells o)[i]? = some u → w.cell? ⟨b, off + j * 14 + i, none⟩ = some u := fun i u hu => by
      have := hc _ _ (cellsK_at obK hx (i := i) (u := u) (by rw [← hu]; exact Array.getElem?_toList))
      rw [Nat.add_assoc]; exact this
    exact ⟨q 0 _ rfl, q 1 _ rfl, q 2 _ rfl, q 3 _ rfl, q 4 _ rfl, q 5 _ rfl, q 6 _ rfl, q 7 _ rfl, q 8 _ rfl, q 9 _ rfl, q 10 _ rfl, q 11 _ rfl, q 12 _ rfl, q 13 _ rfl⟩
theorem tl_ne {a b : ByteArray} (h : a ≠ b) : (a.toList == b.toList) = false := by
  rw [beq_eq_false_iff_ne, ne_eq, ByteArray.toList_eq, ByteArray.toList_eq]
  intro e; apply h
  obtain ⟨⟨x⟩⟩ := a
  obtain ⟨⟨y⟩⟩ := b
  simp at e; rw [e]
theorem bs_eq {a b : ByteArray} (h : a.data.toList = b.data.toList) : a = b := by
  obtain ⟨⟨x⟩⟩ := a
  obtain ⟨⟨y⟩⟩ := b
  simp at h
  rw [h]
end Go.Proofs.YtncahpbjbgcnbaaGreatDoor.WX
/-
  WALK: the laws' guard Long.
-/
namespace Go.Proofs.YtncahpbjbgcnbaaGreatDoor
open Go.RowKit
set_option maxRecDepth 100000
set_option linter.unusedVariables false

def longB (o : Ob) : Bool := decide (100 < o.handle.size ∨ 100 < o.parent.size ∨ 100 < o.ref.size)
theorem longB_out {o : Ob} (h : longB o = false) : o.handle.size ≤ 100 ∧ o.parent.size ≤ 100 ∧ o.ref.size ≤ 100 := by
  simp [longB] at h; omega
theorem long_any (o : Ob) (w : World) : Calls Tryz.prog 27 #[ob o] w fun e w' => e = .returned (.bool (longB o)) ∧ Below w.heap.size w w' := by
  have hb : Below w.heap.size w w := Below.refl _ _
  by_cases h1 : 100 < o.handle.size
  · have HV := Lib.hid (show longB o = true by simp [longB]; omega)
    have h1' : (100 : Int) < o.handle.size := by omega
    go_enter Tryz.func27, Tryz.ntmps27
    go_wp2
    go_ret
    exact ⟨by rw [HV.out]; rfl, bAl hb _⟩
  · by_cases h2 : 100 < o.parent.size
    · have HV := Lib.hid (show longB o = true by simp [longB]; omega)
      have h1' : ¬ (100 : Int) < o.handle.size := by omega
      have h2' : (100 : Int) < o.parent.size := by omega
      clear h1 h2
      go_enter Tryz.func27, Tryz.ntmps27
      go_wp2
      go_ret
      exact ⟨by rw [HV.out]; rfl, bAl hb _⟩
    · by_cases h3 : 100 < o.ref.size
      · have HV := Lib.hid (show longB o = true by simp [longB]; omega)
        have h1' : ¬ (100 : Int) < o.handle.size := by omega
        have h2' : ¬ (100 : Int) < o.parent.size := by omega
        have h3' : (100 : Int) < o.ref.size := by omega
        clear h1 h2 h3
        go_enter Tryz.func27, Tryz.ntmps27
        go_wp2
        go_ret
        exact ⟨by rw [HV.out]; simp [*], bAl hb _⟩
      · have HV := Lib.hid (show longB o = false by simp [longB]; omega)
        have h1' : ¬ (100 : Int) < o.handle.size := by omega
        have h2' : ¬ (100 : Int) < o.parent.size := by omega
        have h3' : ¬ (100 : Int) < o.ref.size := by omega
        clear h1 h2 h3
        go_enter Tryz.func27, Tryz.ntmps27
        go_wp2
        go_ret
        exact ⟨by rw [HV.out]; simp [*], bAl hb _⟩
end Go.Proofs.YtncahpbjbgcnbaaGreatDoor
