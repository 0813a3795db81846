/-
  PLAIN: entries (18 cells), by themselves and in rows; two entries compared; values stored one behind the other.
-/
import Derived.Test.YtecdcfmbhphagaaOKit
import Derived.Test.YtecdcfmbhphagaaIOwn
import Derived.Deep.MidRow
import Derived.Deep.CutRange
import Derived.Deep.RegionHeld3
import Derived.BigQuiet
namespace Go.Proofs.Ytecdcfmbhphagaa.BX
open Go.RowKit HL
open IX (ptr El cellsK cellsK_at cellsK_len OwnK RdK Kept)
set_option maxRecDepth 100000
set_option linter.unusedVariables false
set_option linter.unusedSimpArgs false

structure En where
  handle : ByteArray
  there : Bool
  o : Ob
  desc : Int
  state : Int
def zeroOb : Ob := ⟨⟨#[]⟩, 0, ⟨#[]⟩, 0, ⟨#[]⟩, 0, 0, 0, false, false, 0, 0, 0, 0⟩
/-- An entry's cells. -/
abbrev enC (e : En) : Array Value := #[.string e.handle, .bool e.there, .string e.o.handle, .int .u8 e.o.kind, .string e.o.parent, .int .u8 e.o.typ, .string e.o.ref, .int .i64 e.o.lo, .int .i64 e.o.hi, .int .u8 e.o.digits, .bool e.o.on, .bool e.o.has, .int .i64 e.o.value, .int .i64 e.o.low, .int .i64 e.o.high, .int .u8 e.o.assoc, .int .i64 e.desc, .int .i64 e.state]
abbrev en (e : En) : Value := .agg #[.string e.handle, .bool e.there, .string e.o.handle, .int .u8 e.o.kind, .string e.o.parent, .int .u8 e.o.typ, .string e.o.ref, .int .i64 e.o.lo, .int .i64 e.o.hi, .int .u8 e.o.digits, .bool e.o.on, .bool e.o.has, .int .i64 e.o.value, .int .i64 e.o.low, .int .i64 e.o.high, .int .u8 e.o.assoc, .int .i64 e.desc, .int .i64 e.state]
def zeroEn : En := ⟨⟨#[]⟩, false, zeroOb, 0, 0⟩
/-- Values stored one behind the other. -/
def stC (W : World) (B off : Nat) : List Value → World
  | [] => W
  | v :: vs => stC (W.setCell ⟨B, off, none⟩ v) B (off + 1) vs
def stA (C : Array Value) (off : Nat) : List Value → Array Value
  | [] => C
  | v :: vs => stA (C.setIfInBounds off v) (off + 1) vs
theorem at_stC {B : Nat} : ∀ (vs : List Value) (off : Nat) (W : World) (C : Array Value), AtC W B C → off + vs.length ≤ C.size → AtC (stC W B off vs) B (stA C off vs)
  | [], off, W, C, h, _ => h
  | v :: vs, off, W, C, h, hl => at_stC vs (off + 1) _ _ (h.set (i := off) (by simp at hl; omega) v) (by simp at hl ⊢; omega)
theorem at_mid {B : Nat} : ∀ (vs : List Value) (pre old post : List Value) (W : World), AtC W B (pre ++ old ++ post).toArray → old.length = vs.length → AtC (stC W B pre.length vs) B (pre ++ vs ++ post).toArray
  | [], pre, old, post, W, h, hl => by
    have : old = [] := List.eq_nil_of_length_eq_zero hl
    subst this; exact h
  | v :: vs, pre, [], post, W, h, hl => by simp at hl
  | v :: vs, pre, x :: old, post, W, h, hl => by
    have h1 := h.set (i := pre.length) (by simp) v
    have e : (pre ++ x :: old ++ post).toArray.setIfInBounds pre.length v = ((pre ++ [v]) ++ old ++ post).toArray := by simp
    rw [e] at h1
    have h2 := at_mid vs (pre ++ [v]) old post _ h1 (by simpa using hl)
    have e2 : pre ++ [v] ++ vs ++ post = pre ++ v :: vs ++ post := by simp
    rw [e2] at h2
    have e3 : (pre ++ [v]).length = pre.length + 1 := by simp
    rw [e3] at h2
    exact h2
theorem at_all {B : Nat} {W : World} (old vs : List Value) (h : AtC W B old.toArray) (hl : old.length = vs.length) : AtC (stC W B 0 vs) B vs.toArray := by
  have := at_mid vs [] old [] W (by simpa using h) hl
  simpa using this
theorem kept_stC {B : Nat} {w : World} {P : Nat → Prop} (hB : B < w.heap.size → ¬ P B) : ∀ (vs : List Value) (off : Nat) (W : World), Kept w W P → Kept w (stC W B off vs) P
  | [], off, W, h => h
  | v :: vs, off, W, h => kept_stC hB vs (off + 1) _ (h.set hB v)
theorem at_store {B B2 : Nat} : ∀ (vs : List Value) (off : Nat) (W : World) (C : Array Value), B ≠ B2 → AtC W B C → AtC (stC W B2 off vs) B C
  | [], off, W, C, _, h => h
  | v :: vs, off, W, C, hn, h => at_store vs (off + 1) _ _ hn (h.store (p := ⟨B2, off, none⟩) (by show B2 ≠ B; omega) v)
noncomputable def enK : El En where
  T := 46
  e := 35
  size := 18
  bytes := (IX.infoOf 35).bytes
  z := en zeroEn
  i := IX.infoOf 35
  enc := fun e => (enC e).toList
  el := by kernel_rfl
  ht := Try.underlying46
  hi := by kernel_rfl
  hz := by kernel_rfl
  hs := by kernel_rfl
  hb := rfl
  hzs := rfl
  pos := by decide
  len := fun _ => rfl
  one := fun _ u hu => by simp at hu; rcases hu with rfl | rfl | rfl | rfl | rfl | rfl | rfl | rfl | rfl | rfl | rfl | rfl | rfl | rfl | rfl | rfl | rfl | rfl <;> rfl
  small := of_decide_eq_true (by kernel_rfl)
theorem ens_at {w : World} {B : Nat} {A : Option Addr} {l : List En} (h : RdK enK w B A l) (h0 : 0 < l.length) : ∃ b off, A = some ⟨b, off, none⟩ ∧ b < B ∧ ∀ j e, l[j]? = some e → w.cell? ⟨b, off + j * 18, none⟩ = some (.string e.handle) ∧ w.cell? ⟨b, off + j * 18 + 1, none⟩ = some (.bool e.there) ∧ w.cell? ⟨b, off + j * 18 + 2, none⟩ = some (.string e.o.handle) ∧ w.cell? ⟨b, off + j * 18 + 3, none⟩ = some (.int .u8 e.o.kind) ∧ w.cell? ⟨b, off + j * 18 + 4, none⟩ = some (.string e.o.parent) ∧ w.cell? ⟨b, off + j * 18 + 5, none⟩ = some (.int .u8 e.o.typ) ∧ w.cell? ⟨b, off + j * 18 + 6, none⟩ = some (.string e.o.ref) ∧ w.cell? ⟨b, off + j * 18 + 7, none⟩ = some (.int .i64 e.o.lo) ∧ w.cell? ⟨b, off + j * 18 + 8, none⟩ = some (.int .i64 e.o.hi) ∧ w.cell? ⟨b, off + j * 18 + 9, none⟩ = some (.int .u8 e.o.digits) ∧ w.cell? ⟨b, off + j * 18 + 10, none⟩ = some (.bool e.o.on) ∧ w.cell? ⟨b, off + j * 18 + 11, none⟩ = some (.bool e.o.has) ∧ w.cell? ⟨b, off + j * 18 + 12, none⟩ = some (.int .i64 e.o.value) ∧ w.cell? ⟨b, off + j * 18 + 13, none⟩ = some (.int .i64 e.o.low) ∧ w.cell? ⟨b, off + j * 18 + 14, none⟩ = some (.int .i64 e.o.high) ∧ w.cell? ⟨b, off + j * 18 + 15, none⟩ = some (.int .u8 e.o.assoc) ∧ w.cell? ⟨b, off + j * 18 + 16, none⟩ = some (.int .i64 e.desc) ∧ w.cell? ⟨b, off + j * 18 + 17, none⟩ = some (.int .i64 e.state) := by
  rcases h with rfl | ⟨b, off, e, hb, hc⟩
  · simp at h0
  · refine ⟨b, off, e, hb, fun j e hx => ?_⟩
    have q : ∀ (i : Nat) (u : Value), (enC e)[i]? = some u → w.cell? ⟨b, off + j * 18 + i, none⟩ = some u := fun i u hu => by
      have := hc _ _ (cellsK_at enK hx (i := i) (u := u) (by rw [← hu]; exact Array.getElem?_toList))
      rw [Nat.add_assoc]; exact this
    exact ⟨q 0 _ rfl, q 1 _ rfl, q 2 _ rfl, q 3 _ rfl, q 4 _ rfl, q 5 _ rfl, q 6 _ rfl, q 7 _ rfl, q 8 _ rfl, q 9 _ rfl, q 10 _ rfl, q 11 _ rfl, q 12 _ rfl, q 13 _ rfl, q 14 _ rfl, q 15 _ rfl, q 16 _ rfl, q 17 _ rfl⟩
theorem setCells_row (B : Nat) : ∀ (vs : List Value) (off : Nat) (W : World), W.setCells B off vs = stC W B off vs
  | [], off, W => rfl
  | v :: vs, off, W => setCells_row B vs (off + 1) _
theorem ret_row {P : Program} {fn : Func} {R : Ending → World → Prop} {act : Act} {W : World} {B : Nat} {C : Array Value} {p : Tmp} {ty : TypeId} (hr : fn.results = #[.cell p ty]) (hp : act.tmps.getD p undef = .pointer (some ⟨B, 0, none⟩)) (hd : act.defers = [])
    (h : AtC W B C) (ha : (isAgg ty).run P W = .ok true W) (hs : (sizeOf ty).run P W = .ok C.size W) (hR : R (.returned (.agg C)) W) : bodyPost P fn R .ret act W := by
  refine bodyPost_ret (v := .agg C) ?_ hd hR
  have hl := run_loadCells_list (P := P) W ⟨B, 0, none⟩ C.toList (fun j v hv => by
    have : (⟨B, 0, none⟩ : Addr).add j = ⟨B, j, none⟩ := by unfold Addr.add; split <;> simp_all
    rw [this, h.c j]; simpa using hv)
  simp only [Array.length_toList, Array.toArray_toList] at hl
  simp at hp
  have h0 : (asAddr (act.tmps[p]?.getD undef)).run P W = .ok ⟨B, 0, none⟩ W := by rw [hp]; simp [asAddr, go_sem]
  simp only [results, hr]
  simp [Sem.run_bind, Result.andThen, h0, loadVar, ha, hs, hl]
theorem ret_row_tmp {P : Program} {fn : Func} {R : Ending → World → Prop} {act : Act} {W : World} {B : Nat} {C : Array Value} {p u : Tmp} {ty : TypeId} {v : Value} (hr : fn.results = #[.cell p ty, .tmp u]) (hp : act.tmps.getD p undef = .pointer (some ⟨B, 0, none⟩)) (hu : act.tmps.getD u undef = v) (hd : act.defers = [])
    (h : AtC W B C) (ha : (isAgg ty).run P W = .ok true W) (hs : (sizeOf ty).run P W = .ok C.size W) (hR : R (.returned (.tuple #[.agg C, v])) W) : bodyPost P fn R .ret act W := by
  refine bodyPost_ret (v := .tuple #[.agg C, v]) ?_ hd hR
  have hl := run_loadCells_list (P := P) W ⟨B, 0, none⟩ C.toList (fun j v hv => by
    have : (⟨B, 0, none⟩ : Addr).add j = ⟨B, j, none⟩ := by unfold Addr.add; split <;> simp_all
    rw [this, h.c j]; simpa using hv)
  simp only [Array.length_toList, Array.toArray_toList] at hl
  have h0 : (asAddr (.pointer (some ⟨B, 0, none⟩))).run P W = .ok ⟨B, 0, none⟩ W := by simp [asAddr, go_sem]
  rw [results_cell_tmp hr, hp, hu, h0]
  simp [Sem.run_bind, Result.andThen, loadVar, ha, hs, hl]
theorem belowK {W0 w w' : World} {B : Nat} (h : Below W0.heap.size W0 w) (k : Kept w w' (· ≠ B)) (hB : W0.heap.size ≤ B) : Below W0.heap.size W0 w' :=
  h.trans (k.below h.size (fun j hj => show j ≠ B by omega))
theorem there_at {W : World} {B : Nat} {C : Array Value} (h : AtC W B C) : W.there B 0 C.size := fun j hj => by
  rw [Nat.zero_add]
  refine ⟨?_, h.f j⟩
  rw [h.c j, Array.getElem?_eq_getElem hj]; rfl
theorem range_at {W : World} {B : Nat} {C : Array Value} (h : AtC W B C) : W.rangeAt B 0 C.toList := fun j v hv => by
  rw [Nat.zero_add, h.c j, ← hv]; exact Array.getElem?_toList.symm
theorem set_at {W : World} {B : Nat} {Z C : Array Value} (h : AtC W B Z) (hl : Z.size = C.size) : AtC (W.setCells B 0 C.toList) B C := by
  rw [setCells_row]
  have := at_all (W := W) (B := B) Z.toList C.toList (by simpa using h) (by simpa using hl)
  simpa using this
theorem set_kept {W : World} {B : Nat} (C : Array Value) : Kept W (W.setCells B 0 C.toList) (· ≠ B) := by
  rw [setCells_row]
  exact kept_stC (fun _ q => q rfl) _ _ _ (Kept.refl _ _)
theorem set_below {w W : World} {B : Nat} (h : Below w.heap.size w W) (hB : w.heap.size ≤ B) (C : Array Value) : Below w.heap.size w (W.setCells B 0 C.toList) := belowK h (set_kept C) hB
theorem own_rd {α : Type} {K : El α} {w : World} {base : Nat} {A : Option Addr} {n c : Nat} {l : List α} (h : OwnK K w base (.slice A n c) l) : RdK K w w.heap.size A l := by
  obtain ⟨A2, c2, e, r, _⟩ := h.form
  simp only [Value.slice.injEq] at e
  rw [e.1]; exact r
theorem own_far {α : Type} {K : El α} {w w' : World} {base N : Nat} {v : Value} {l : List α} (h : OwnK K w base v l) (k : Kept w w' (· ≠ N)) (hN : N < base ∨ w.heap.size ≤ N) : OwnK K w' base v l :=
  h.kept k (fun b hb => by have := h.lt b hb; show b ≠ N; omega)
def nthL : Nat → Code → Code
  | 0, c => c
  | n + 1, .seq _ b => nthL n b
  | _, c => c
theorem tl_ne {a b : ByteArray} (h : a ≠ b) : (a.toList == b.toList) = false := by
  rw [beq_eq_false_iff_ne, ne_eq, ByteArray.toList_eq, ByteArray.toList_eq]
  intro e; apply h
  obtain ⟨⟨x⟩⟩ := a
  obtain ⟨⟨y⟩⟩ := b
  simp at e; rw [e]
theorem str_b (a b : ByteArray) : (a.toList == b.toList) = @decide (a = b) (Classical.propDecidable _) := by
  by_cases h : a = b
  · simp [h]
  · rw [tl_ne h]; simp [h]
theorem u8_b (a b : Nat) : ((a : Int) == (b : Int)) = decide (a = b) := by
  by_cases h : a = b
  · simp [h]
  · have : ¬ (a : Int) = b := by omega
    simp [h, this]
theorem if_ok (p : Prop) [Decidable p] (r : Bool) (W : World) : (if p then Result.ok r W else Result.ok false W) = Result.ok (decide p && r) W := by
  by_cases h : p <;> simp [h]
noncomputable def eqOb (a b : Ob) : Bool := @decide (a = b) (Classical.propDecidable _)
theorem eqOb_iff {a b : Ob} : eqOb a b = true ↔ a = b := by simp [eqOb]
noncomputable def eqEn (a b : En) : Bool := @decide (a = b) (Classical.propDecidable _)
theorem eqEn_iff {a b : En} : eqEn a b = true ↔ a = b := by simp [eqEn]
theorem eqEn_same (a : En) : eqEn a a = true := eqEn_iff.2 rfl
theorem and_ob {a b : Ob} : eqOb a b = ((a.handle.toList == b.handle.toList) && ((a.kind : Int) == b.kind) && (a.parent.toList == b.parent.toList) && ((a.typ : Int) == b.typ) && (a.ref.toList == b.ref.toList) && (a.lo == b.lo) && (a.hi == b.hi) && ((a.digits : Int) == b.digits) && (a.on == b.on) && (a.has == b.has) && (a.value == b.value) && (a.low == b.low) && (a.high == b.high) && ((a.assoc : Int) == b.assoc)) := by
  rw [Bool.eq_iff_iff, eqOb_iff]
  simp only [str_b, u8_b, Bool.and_eq_true, beq_iff_eq, decide_eq_true_eq]
  obtain ⟨a0, a1, a2, a3, a4, a5, a6, a7, a8, a9, a10, a11, a12, a13⟩ := a
  obtain ⟨b0, b1, b2, b3, b4, b5, b6, b7, b8, b9, b10, b11, b12, b13⟩ := b
  simp [and_assoc]
theorem and_en {a b : En} : eqEn a b = ((a.handle.toList == b.handle.toList) && (a.there == b.there) && eqOb a.o b.o && (a.desc == b.desc) && (a.state == b.state)) := by
  rw [Bool.eq_iff_iff, eqEn_iff]
  simp only [str_b, Bool.and_eq_true, beq_iff_eq, decide_eq_true_eq, eqOb_iff]
  obtain ⟨a0, a1, a2, a3, a4⟩ := a
  obtain ⟨b0, b1, b2, b3, b4⟩ := b
  simp [and_assoc]
set_option maxHeartbeats 4000000 in
theorem run_eqOb (W : World) (a b : Ob) : (Op.equalIn 10000 31 (ob a) (ob b)).run Try.prog W = .ok (eqOb a b) W := by
  rw [and_ob]
  go_simp
  have e : ∀ r : Bool, (if (a.assoc : Int) = b.assoc then Result.ok true W else Result.ok false W) = Result.ok (decide ((a.assoc : Int) = b.assoc)) W := fun _ => by by_cases h : (a.assoc : Int) = b.assoc <;> simp [h]
  rw [e true]
  simp only [if_ok]
  congr 1
  simp only [Bool.beq_eq_decide_eq, Bool.and_assoc]
set_option maxHeartbeats 4000000 in
theorem run_eqEn (W : World) (a b : En) : (Op.equalIn 10000 35 (en a) (en b)).run Try.prog W = .ok (eqEn a b) W := by
  rw [and_en, and_ob]
  go_simp
  have e : ∀ r : Bool, (if a.state = b.state then Result.ok true W else Result.ok false W) = Result.ok (decide (a.state = b.state)) W := fun _ => by by_cases h : a.state = b.state <;> simp [h]
  rw [e true]
  simp only [if_ok]
  congr 1
  simp only [Bool.beq_eq_decide_eq, Bool.and_assoc]
end Go.Proofs.Ytecdcfmbhphagaa.BX
