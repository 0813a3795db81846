/-
  PLAIN: a change's fields; rows of changes as a list: a kind of element of 15 cells.
-/
import Derived.Test.YtncahpbjbgcnbaaGreatDoorEO2
import Derived.Laws.StructEq
import Derived.Test.YtncahpbjbgcnbaaGreatDoorEO6
import Derived.Test.YtncahpbjbgcnbaaGreatDoorEO0
namespace Go.Proofs.YtncahpbjbgcnbaaGreatDoor.DX
open Go.RowKit HL
open IX (ptr El cellsK cellsK_at OwnK RdK strK)
open WX (hb pb rb tl_ne bs_eq)
set_option maxRecDepth 100000
set_option linter.unusedVariables false
set_option linter.unusedSimpArgs false

/-- A change's fields: its kind and its object. -/
structure Ch where
  kind : Nat
  o : Ob
abbrev chCells (c : Ch) : Array Value := #[.int .u8 c.kind, .string c.o.handle, .int .u8 c.o.kind, .string c.o.parent, .int .u8 c.o.typ, .string c.o.ref, .int .i64 c.o.lo, .int .i64 c.o.hi, .int .u8 c.o.digits, .bool c.o.on, .bool c.o.has, .int .i64 c.o.value, .int .i64 c.o.low, .int .i64 c.o.high, .int .u8 c.o.assoc]
abbrev ch (c : Ch) : Value := .agg #[.int .u8 c.kind, .string c.o.handle, .int .u8 c.o.kind, .string c.o.parent, .int .u8 c.o.typ, .string c.o.ref, .int .i64 c.o.lo, .int .i64 c.o.hi, .int .u8 c.o.digits, .bool c.o.on, .bool c.o.has, .int .i64 c.o.value, .int .i64 c.o.low, .int .i64 c.o.high, .int .u8 c.o.assoc]
def zeroCh : Ch := ⟨0, zeroOb⟩
noncomputable def chK : El Ch where
  T := 23
  e := 39
  size := 15
  bytes := (IX.infoOf 39).bytes
  z := ch zeroCh
  i := IX.infoOf 39
  enc := fun c => (chCells c).toList
  el := by kernel_rfl
  ht := Tryz.underlying23
  hi := by kernel_rfl
  hz := by kernel_rfl
  hs := by kernel_rfl
  hb := rfl
  hzs := rfl
  pos := by decide
  len := fun _ => rfl
  one := fun _ u hu => by simp at hu; rcases hu with rfl | rfl | rfl | rfl | rfl | rfl | rfl | rfl | rfl | rfl | rfl | rfl | rfl | rfl | rfl <;> rfl
  small := of_decide_eq_true (by kernel_rfl)
theorem chs_at {w : World} {B : Nat} {A : Option Addr} {l : List Ch} (h : RdK chK w B A l) (h0 : 0 < l.length) : ∃ b off, A = some ⟨b, off, none⟩ ∧ b < B ∧ ∀ j c, l[j]? = some c → w.cell? ⟨b, off + j * 15, none⟩ = some (.int .u8 c.kind) ∧ w.cell? ⟨b, off + j * 15 + 1, none⟩ = some (.string c.o.handle) ∧ w.cell? ⟨b, off + j * 15 + 2, none⟩ = some (.int .u8 c.o.kind) ∧ w.cell? ⟨b, off + j * 15 + 3, none⟩ = some (.string c.o.parent) ∧ w.cell? ⟨b, off + j * 15 + 4, none⟩ = some (.int .u8 c.o.typ) ∧ w.cell? ⟨b, off + j * 15 + 5, none⟩ = some (.string c.o.ref) ∧ w.cell? ⟨b, off + j * 15 + 6, none⟩ = some (.int .i64 c.o.lo) ∧ w.cell? ⟨b, off + j * 15 + 7, none⟩ = some (.int .i64 c.o.hi) ∧ w.cell? ⟨b, off + j * 15 + 8, none⟩ = some (.int .u8 c.o.digits) ∧ w.cell? ⟨b, off + j * 15 + 9, none⟩ = some (.bool c.o.on) ∧ w.cell? ⟨b, off + j * 15 + 10, none⟩ = some (.bool c.o.has) ∧ w.cell? ⟨b, off + j * 15 + 11, none⟩ = some (.int .i64 c.o.value) ∧ w.cell? ⟨b, off + j * 15 + 12, none⟩ = some (.int .i64 c.o.low) ∧ w.cell? ⟨b, off + j * 15 + 13, none⟩ = some (.int .i64 c.o.high) ∧ w.cell? ⟨b, off + j * 15 + 14, none⟩ = some (.int .u8 c.o.assoc) := by
  rcases h with rfl | ⟨b, off, e, hb, hc⟩
  · simp at h0
  · refine ⟨b, off, e, hb, fun j c hx => ?_⟩
    have q : ∀ (i : Nat) (u : Value), (chCells c)[i]? = some u → w.cell? ⟨b, off + j * 15 + i, none⟩ = some u := fun i u hu => by
      have := hc _ _ (cellsK_at chK hx (i := i) (u := u) (by rw [← hu]; exact Array.getElem?_toList))
      rw [Nat.add_assoc]; exact this
    exact ⟨q 0 _ rfl, q 1 _ rfl, q 2 _ rfl, q 3 _ rfl, q 4 _ rfl, q 5 _ rfl, q 6 _ rfl, q 7 _ rfl, q 8 _ rfl, q 9 _ rfl, q 10 _ rfl, q 11 _ rfl, q 12 _ rfl, q 13 _ rfl, q 14 _ rfl⟩
/-- Are two objects the same? -/
noncomputable def eqOb (a b : Ob) : Bool := @decide (a = b) (Classical.propDecidable _)
theorem eqOb_t {a b : Ob} (h : a = b) : eqOb a b = true := by simp [eqOb, h]
theorem eqOb_f {a b : Ob} (h : a ≠ b) : eqOb a b = false := by simp [eqOb, h]
theorem eqOb_iff {a b : Ob} : eqOb a b = true ↔ a = b := by simp [eqOb]
/-- Are two changes the same? -/
noncomputable def eqCh (a b : Ch) : Bool := @decide (a = b) (Classical.propDecidable _)
theorem eqCh_t {a b : Ch} (h : a = b) : eqCh a b = true := by simp [eqCh, h]
theorem eqCh_f {a b : Ch} (h : a ≠ b) : eqCh a b = false := by simp [eqCh, h]
theorem eqCh_iff {a b : Ch} : eqCh a b = true ↔ a = b := by simp [eqCh]
theorem bytesT {s t : ByteArray} (h : s.toList = t.toList) : s = t := by
  rw [ByteArray.toList_eq, ByteArray.toList_eq] at h
  exact ByteArray.ext (Array.toList_inj.1 h)
theorem str_b (a b : ByteArray) : (a.toList == b.toList) = @decide (a = b) (Classical.propDecidable _) := by
  by_cases h : a = b
  · simp [h]
  · rw [tl_ne h]; simp [h]
theorem u8_b (a b : Nat) : ((a : Int) == (b : Int)) = decide (a = b) := by
  by_cases h : a = b
  · simp [h]
  · have : ¬ (a : Int) = b := by omega
    simp [h, this]
end Go.Proofs.YtncahpbjbgcnbaaGreatDoor.DX
/-
  PLAIN: '==' of two objects, of two changes, as one law for the walk.
-/
namespace Go.Proofs.YtncahpbjbgcnbaaGreatDoor.DX
open Go.RowKit HL
open WX (tl_ne bs_eq)
set_option maxRecDepth 100000
set_option linter.unusedVariables false
set_option linter.unusedSimpArgs false

theorem and_ob {a b : Ob} : eqOb a b = ((a.handle.toList == b.handle.toList) && ((a.kind : Int) == b.kind) && (a.parent.toList == b.parent.toList) && ((a.typ : Int) == b.typ) && (a.ref.toList == b.ref.toList) && (a.lo == b.lo) && (a.hi == b.hi) && ((a.digits : Int) == b.digits) && (a.on == b.on) && (a.has == b.has) && (a.value == b.value) && (a.low == b.low) && (a.high == b.high) && ((a.assoc : Int) == b.assoc)) := by
  rw [Bool.eq_iff_iff, eqOb_iff]
  simp only [str_b, u8_b, Bool.and_eq_true, beq_iff_eq, decide_eq_true_eq]
  obtain ⟨a0, a1, a2, a3, a4, a5, a6, a7, a8, a9, a10, a11, a12, a13⟩ := a
  obtain ⟨b0, b1, b2, b3, b4, b5, b6, b7, b8, b9, b10, b11, b12, b13⟩ := b
  simp [and_assoc]
theorem and_ch {a b : Ch} : eqCh a b = (((a.kind : Int) == b.kind) && eqOb a.o b.o) := by
  rw [Bool.eq_iff_iff, eqCh_iff, Bool.and_eq_true, eqOb_iff, u8_b, decide_eq_true_eq]
  obtain ⟨a0, a1⟩ := a
  obtain ⟨b0, b1⟩ := b
  simp
theorem if_ok (p : Prop) [Decidable p] (r : Bool) (W : World) : (if p then Result.ok r W else Result.ok false W) = Result.ok (decide p && r) W := by
  by_cases h : p <;> simp [h]
set_option maxHeartbeats 4000000 in
theorem run_eqOb (W : World) (a b : Ob) : (Op.equalIn 10000 35 (ob a) (ob b)).run Tryz.prog W = .ok (eqOb a b) W := by
  rw [and_ob]
  go_simp
  have e : ∀ r : Bool, (if (a.assoc : Int) = b.assoc then Result.ok true W else Result.ok false W) = Result.ok (decide ((a.assoc : Int) = b.assoc)) W := fun _ => by by_cases h : (a.assoc : Int) = b.assoc <;> simp [h]
  rw [e true]
  simp only [if_ok]
  congr 1
  simp only [Bool.beq_eq_decide_eq, Bool.and_assoc]
set_option maxHeartbeats 4000000 in
theorem run_eqCh (W : World) (a b : Ch) : (Op.equalIn 10000 39 (ch a) (ch b)).run Tryz.prog W = .ok (eqCh a b) W := by
  rw [and_ch, and_ob]
  go_simp
  have e : ∀ r : Bool, (if (a.o.assoc : Int) = b.o.assoc then Result.ok true W else Result.ok false W) = Result.ok (decide ((a.o.assoc : Int) = b.o.assoc)) W := fun _ => by by_cases h : (a.o.assoc : Int) = b.o.assoc <;> simp [h]
  rw [e true]
  simp only [if_ok]
  congr 1
  simp only [Bool.beq_eq_decide_eq, Bool.and_assoc]
end Go.Proofs.YtncahpbjbgcnbaaGreatDoor.DX
/-
  WALKS: what a change may contain: the program's part.
-/
namespace Go.Proofs.YtncahpbjbgcnbaaGreatDoor.DX
open Go.RowKit HL
open IX (ptr El cellsK cellsK_at OwnK RdK strK)
open WX (hb pb rb tl_ne bs_eq)
open TX (Ext wp_region_ext ext_below ext_same)
set_option maxRecDepth 100000
set_option linter.unusedVariables false
set_option linter.unusedSimpArgs false

/-- What a change of that kind may contain of an object. -/
def partOf (k : Nat) (o : Ob) : Ob := if k = 2 then stateOf o zeroOb else if k = 3 then descOf o zeroOb else if k = 4 then { zeroOb with handle := o.handle } else o
theorem kinds4 {k : Nat} (h : k ≤ 255) : k = 1 ∨ k = 2 ∨ k = 3 ∨ k = 4 ∨ (¬ k = 1 ∧ ¬ k = 2 ∧ ¬ k = 3 ∧ ¬ k = 4 ∧ ¬ (k : Int) = 1 ∧ ¬ (k : Int) = 2 ∧ ¬ (k : Int) = 3 ∧ ¬ (k : Int) = 4) := by omega
theorem partOf_2 (o : Ob) : partOf 2 o = stateOf o zeroOb := rfl
theorem partOf_3 (o : Ob) : partOf 3 o = descOf o zeroOb := rfl
theorem partOf_4 (o : Ob) : partOf 4 o = { zeroOb with handle := o.handle } := rfl
theorem partOf_1 (o : Ob) : partOf 1 o = o := rfl
theorem partOf_n {k : Nat} (o : Ob) (h2 : ¬ k = 2) (h3 : ¬ k = 3) (h4 : ¬ k = 4) : partOf k o = o := by unfold partOf; rw [if_neg h2, if_neg h3, if_neg h4]
set_option maxHeartbeats 4000000 in
theorem part_bare (o : Ob) (w : World) : Calls Tryz.prog 61 #[.int .u8 2, ob o] w fun e w' => e = .returned (ob (stateOf o zeroOb)) ∧ Below w.heap.size w w' := by
  have hb : Below w.heap.size w w := Below.refl _ _
  have C := fun W => Lib.hid (bare_any o W)
  go_enter Tryz.func61, Tryz.ntmps61
  go_wp2_with (go_at_call 26; ((with_reducible refine (C _).out.mono ?_); rintro e w1 ⟨rfl, k1⟩; replace hb := bThen (bAl (bAl hb _) _) k1; have mR := (AtC.new _ _ _).then k1; simp at mR; have rc := mR.c; have rf := mR.f; have rl := mR.lt))
  exact ret_ob rfl rfl rfl (AtC.fill mR rfl _ _ _ _ _ _ _ _ _ _ _ _ _ _) ⟨rfl, bFill hb (by omega) _ _ _ _ _ _ _ _ _ _ _ _ _ _⟩
set_option maxHeartbeats 4000000 in
theorem part_only (o : Ob) (w : World) : Calls Tryz.prog 61 #[.int .u8 3, ob o] w fun e w' => e = .returned (ob (descOf o zeroOb)) ∧ Below w.heap.size w w' := by
  have hb : Below w.heap.size w w := Below.refl _ _
  have C := fun W => Lib.hid (only_any o W)
  go_enter Tryz.func61, Tryz.ntmps61
  go_wp2_with (go_at_call 25; ((with_reducible refine (C _).out.mono ?_); rintro e w1 ⟨rfl, k1⟩; replace hb := bThen (bAl (bAl hb _) _) k1; have mR := (AtC.new _ _ _).then k1; simp at mR; have rc := mR.c; have rf := mR.f; have rl := mR.lt))
  exact ret_ob rfl rfl rfl (AtC.fill mR rfl _ _ _ _ _ _ _ _ _ _ _ _ _ _) ⟨rfl, bFill hb (by omega) _ _ _ _ _ _ _ _ _ _ _ _ _ _⟩
set_option maxHeartbeats 4000000 in
theorem part_hand (o : Ob) (w : World) : Calls Tryz.prog 61 #[.int .u8 4, ob o] w fun e w' => e = .returned (ob { zeroOb with handle := o.handle }) ∧ Below w.heap.size w w' := by
  have hb : Below w.heap.size w w := Below.refl _ _
  go_enter Tryz.func61, Tryz.ntmps61
  go_wp2
  exact ret_ob (o := { zeroOb with handle := o.handle }) rfl rfl rfl (AtC.newAt (by simp)) ⟨rfl, bAl (bAl hb _) _⟩
set_option maxHeartbeats 4000000 in
theorem part_all (k : Nat) (o : Ob) (w : World) (h2 : ¬ (k : Int) = 2) (h3 : ¬ (k : Int) = 3) (h4 : ¬ (k : Int) = 4) : Calls Tryz.prog 61 #[.int .u8 k, ob o] w fun e w' => e = .returned (ob o) ∧ Below w.heap.size w w' := by
  have hb : Below w.heap.size w w := Below.refl _ _
  go_enter Tryz.func61, Tryz.ntmps61
  go_wp2
  exact ret_ob (o := o) rfl rfl rfl (AtC.newAt (by simp)) ⟨rfl, bAl (bAl hb _) _⟩
theorem part_any (k : Nat) (o : Ob) (w : World) (hk : k ≤ 255) : Calls Tryz.prog 61 #[.int .u8 k, ob o] w fun e w' => e = .returned (ob (partOf k o)) ∧ Below w.heap.size w w' := by
  rcases kinds4 hk with rfl | rfl | rfl | rfl | ⟨_, n2, n3, n4, _, h2, h3, h4⟩
  · rw [partOf_1]; exact part_all 1 o w (by omega) (by omega) (by omega)
  · rw [partOf_2]; exact part_bare o w
  · rw [partOf_3]; exact part_only o w
  · rw [partOf_4]; exact part_hand o w
  · rw [partOf_n o n2 n3 n4]; exact part_all k o w h2 h3 h4
end Go.Proofs.YtncahpbjbgcnbaaGreatDoor.DX
/-
  WALKS: whether a change may be, its callees' contracts given: the program's sound, One; the document's One.
-/
namespace Go.Proofs.YtncahpbjbgcnbaaGreatDoor.DX
open Go.RowKit HL
open IX (ptr El cellsK cellsK_at OwnK RdK strK)
open WX (hb pb rb tl_ne bs_eq)
open TX (Ext wp_region_ext ext_below ext_same)
set_option maxRecDepth 100000
set_option linter.unusedVariables false
set_option linter.unusedSimpArgs false

set_option maxHeartbeats 4000000 in
theorem sound_1 (o : Ob) (r : Int) (w : World) (C : ∀ W, Below w.heap.size w W → Calls Tryz.prog 18 #[ob o] W fun e w' => e = .returned (.int .i64 r) ∧ Below W.heap.size W w') : Calls Tryz.prog 62 #[ch ⟨1, o⟩] w fun e w' => e = .returned (.bool (r == 0)) ∧ Below w.heap.size w w' := by
  have hb : Below w.heap.size w w := Below.refl _ _
  have CC := Lib.hid C
  clear C
  go_enter Tryz.func62, Tryz.ntmps62
  go_wp2_with (go_at_call 18; ((with_reducible refine (CC.out _ (bAl hb _)).mono ?_); rintro e w1 ⟨rfl, k⟩; replace hb := bThen (bAl hb _) k))
  go_ret
  exact ⟨rfl, hb⟩
set_option maxHeartbeats 4000000 in
theorem sound_2 (o : Ob) (r : Int) (w : World) (C : ∀ W, Below w.heap.size w W → Calls Tryz.prog 80 #[ob o] W fun e w' => e = .returned (.int .i64 r) ∧ Below W.heap.size W w') : Calls Tryz.prog 62 #[ch ⟨2, o⟩] w fun e w' => e = .returned (.bool (r == 0)) ∧ Below w.heap.size w w' := by
  have hb : Below w.heap.size w w := Below.refl _ _
  have CC := Lib.hid C
  clear C
  go_enter Tryz.func62, Tryz.ntmps62
  go_wp2_with (go_at_call 80; ((with_reducible refine (CC.out _ (bAl hb _)).mono ?_); rintro e w1 ⟨rfl, k⟩; replace hb := bThen (bAl hb _) k))
  go_ret
  exact ⟨rfl, hb⟩
set_option maxHeartbeats 4000000 in
theorem sound_3 (o : Ob) (r : Int) (w : World) (C : ∀ W, Below w.heap.size w W → Calls Tryz.prog 81 #[ob o] W fun e w' => e = .returned (.int .i64 r) ∧ Below W.heap.size W w') : Calls Tryz.prog 62 #[ch ⟨3, o⟩] w fun e w' => e = .returned (.bool (r == 0)) ∧ Below w.heap.size w w' := by
  have hb : Below w.heap.size w w := Below.refl _ _
  have CC := Lib.hid C
  clear C
  go_enter Tryz.func62, Tryz.ntmps62
  go_wp2_with (go_at_call 81; ((with_reducible refine (CC.out _ (bAl hb _)).mono ?_); rintro e w1 ⟨rfl, k⟩; replace hb := bThen (bAl hb _) k))
  go_ret
  exact ⟨rfl, hb⟩
set_option maxHeartbeats 4000000 in
theorem sound_4 (o : Ob) (w : World) (ho : o.handle.size ≤ maxLen) : Calls Tryz.prog 62 #[ch ⟨4, o⟩] w fun e w' => e = .returned (.bool (HL.mayB o.handle)) ∧ Below w.heap.size w w' := by
  have hb : Below w.heap.size w w := Below.refl _ _
  have CC := Lib.hid (fun W => HL.may_any o.handle W ho)
  clear ho
  go_enter Tryz.func62, Tryz.ntmps62
  go_wp2_with (go_at_call 55; ((with_reducible refine (CC.out _).mono ?_); rintro e w1 ⟨rfl, k⟩; replace hb := bThen (bAl hb _) k))
  go_ret
  exact ⟨rfl, hb⟩
set_option maxHeartbeats 4000000 in
theorem sound_n (c : Ch) (w : World) (h1 : ¬ (c.kind : Int) = 1) (h2 : ¬ (c.kind : Int) = 2) (h3 : ¬ (c.kind : Int) = 3) (h4 : ¬ (c.kind : Int) = 4) : Calls Tryz.prog 62 #[ch c] w fun e w' => e = .returned (.bool false) ∧ Below w.heap.size w w' := by
  have hb : Below w.heap.size w w := Below.refl _ _
  go_enter Tryz.func62, Tryz.ntmps62
  go_wp2
  go_ret
  exact ⟨rfl, bAl hb _⟩
set_option maxHeartbeats 4000000 in
theorem one_of (c : Ch) (x : Ob) (r s : Bool) (w : World) (hr : eqOb c.o x = r) (CP : ∀ W, Calls Tryz.prog 61 #[.int .u8 c.kind, ob c.o] W fun e w' => e = .returned (ob x) ∧ Below W.heap.size W w')
    (CS : ∀ W, Below w.heap.size w W → Calls Tryz.prog 62 #[ch c] W fun e w' => e = .returned (.bool s) ∧ Below W.heap.size W w') :
    Calls Tryz.prog 45 #[ch c] w fun e w' => e = .returned (.bool (r && s)) ∧ Below w.heap.size w w' := by
  have hb : Below w.heap.size w w := Below.refl _ _
  have P := Lib.hid CP
  have S := Lib.hid CS
  have hE : ∀ W, (Op.equalIn 10000 35 (ob c.o) (ob x)).run Tryz.prog W = .ok r W := fun W => hr ▸ run_eqOb W c.o x
  clear CP CS hr
  go_enter Tryz.func45, Tryz.ntmps45
  go_wp2_with fail
  have mO := AtC.new w (chCells c) 39
  have hb1 := bAl hb (.cells (chCells c) 39)
  generalize w.alloc (.cells (chCells c) 39) = W0 at *
  have cs : ∀ x : Ext W0, ∀ i, x.W.cell? ⟨w.heap.size, i, none⟩ = (chCells c)[i]? := fun x => (mO.then x.b).c
  have HB := Lib.hid hb1
  clear mO hb hb1
  cases r with
  | true =>
    refine wp_region_ext (by kernel_rfl) (by kernel_rfl) ?_
    repeat (go_big_quiet_step (first
      | (go_at_call 61; exact ext_below (P.out _))
      | (go_at_call 62; exact ext_below (S.out _ (bThen HB.out (Ext.b _))))))
    refine wpQuiet_nil ?_
    rintro _ ⟨y, rfl⟩
    go_wp2
    go_ret
    exact ⟨rfl, bThen HB.out y.b⟩
  | false =>
    refine wp_region_ext (by kernel_rfl) (by kernel_rfl) ?_
    repeat (go_big_quiet_step (first
      | (go_at_call 61; exact ext_below (P.out _))
      | (go_at_call 62; exact ext_below (S.out _ (bThen HB.out (Ext.b _))))))
    refine wpQuiet_nil ?_
    rintro _ ⟨y, rfl⟩
    go_wp2
    go_ret
    exact ⟨rfl, bThen HB.out y.b⟩
end Go.Proofs.YtncahpbjbgcnbaaGreatDoor.DX
/-
  WALKS: whether a change may be: the document's One, its callees' contracts given.
-/
namespace Go.Proofs.YtncahpbjbgcnbaaGreatDoor.DX
open Go.RowKit HL
open IX (ptr El cellsK cellsK_at OwnK RdK strK)
open WX (hb pb rb tl_ne bs_eq)
open TX (Ext wp_region_ext ext_below ext_same)
set_option maxRecDepth 100000
set_option linter.unusedVariables false
set_option linter.unusedSimpArgs false

set_option maxHeartbeats 4000000 in
theorem refOne_1 (o : Ob) (r : Int) (w : World) (C : ∀ W, Below w.heap.size w W → Calls Tryz.prog 84 #[ob o] W fun e w' => e = .returned (.int .i64 r) ∧ Below W.heap.size W w') : Calls Tryz.prog 65 #[ch ⟨1, o⟩] w fun e w' => e = .returned (.bool (r == 0)) ∧ Below w.heap.size w w' := by
  have hb : Below w.heap.size w w := Below.refl _ _
  have CC := Lib.hid C
  clear C
  go_enter Tryz.func65, Tryz.ntmps65
  go_wp2_with (go_at_call 84; ((with_reducible refine (CC.out _ (bAl hb _)).mono ?_); rintro e w1 ⟨rfl, k⟩; replace hb := bThen (bAl hb _) k))
  go_ret
  exact ⟨rfl, hb⟩
set_option maxHeartbeats 4000000 in
theorem refOne_n (c : Ch) (w : World) (h1 : ¬ (c.kind : Int) = 1) (h2 : ¬ (c.kind : Int) = 2) (h3 : ¬ (c.kind : Int) = 3) (h4 : ¬ (c.kind : Int) = 4) : Calls Tryz.prog 65 #[ch c] w fun e w' => e = .returned (.bool false) ∧ Below w.heap.size w w' := by
  have hb : Below w.heap.size w w := Below.refl _ _
  go_enter Tryz.func65, Tryz.ntmps65
  go_wp2
  go_ret
  exact ⟨rfl, bAl hb _⟩
set_option maxHeartbeats 4000000 in
theorem refOne_2 (o x : Ob) (r : Bool) (s : Int) (w : World) (hr : eqOb x o = r) (CP : ∀ W, Calls Tryz.prog 85 #[ob o] W fun e w' => e = .returned (ob x) ∧ Below W.heap.size W w')
    (CS : ∀ W, Below w.heap.size w W → Calls Tryz.prog 86 #[ob o] W fun e w' => e = .returned (.int .i64 s) ∧ Below W.heap.size W w') :
    Calls Tryz.prog 65 #[ch ⟨2, o⟩] w fun e w' => e = .returned (.bool (r && (s == 0))) ∧ Below w.heap.size w w' := by
  have hb : Below w.heap.size w w := Below.refl _ _
  have P := Lib.hid CP
  have S := Lib.hid CS
  have hE : ∀ W, (Op.equalIn 10000 35 (ob x) (ob o)).run Tryz.prog W = .ok r W := fun W => hr ▸ run_eqOb W x o
  clear CP CS hr
  go_enter Tryz.func65, Tryz.ntmps65
  go_wp2_with fail
  have mO := AtC.new w (chCells ⟨2, o⟩) 39
  have hb1 := bAl hb (.cells (chCells ⟨2, o⟩) 39)
  dsimp only [chCells] at mO hb1
  simp only [Int.cast_ofNat_Int] at mO hb1
  generalize w.alloc _ = W0 at *
  have cs : ∀ x : Ext W0, ∀ i, x.W.cell? ⟨w.heap.size, i, none⟩ = (chCells ⟨2, o⟩)[i]? := fun x => (mO.then x.b).c
  have HB := Lib.hid hb1
  clear mO hb hb1
  cases r with
  | true =>
    refine wp_region_ext (by kernel_rfl) (by kernel_rfl) ?_
    repeat (go_big_quiet_step (first
      | (go_at_call 85; exact ext_below (P.out _))
      | (go_at_call 86; exact ext_below (S.out _ (bThen HB.out (Ext.b _))))))
    refine wpQuiet_nil ?_
    rintro _ ⟨y, rfl⟩
    go_wp2
    go_ret
    exact ⟨rfl, bThen HB.out y.b⟩
  | false =>
    refine wp_region_ext (by kernel_rfl) (by kernel_rfl) ?_
    repeat (go_big_quiet_step (first
      | (go_at_call 85; exact ext_below (P.out _))
      | (go_at_call 86; exact ext_below (S.out _ (bThen HB.out (Ext.b _))))))
    refine wpQuiet_nil ?_
    rintro _ ⟨y, rfl⟩
    go_wp2
    go_ret
    exact ⟨rfl, bThen HB.out y.b⟩
set_option maxHeartbeats 4000000 in
theorem refOne_3 (o x : Ob) (r : Bool) (s : Int) (w : World) (hr : eqOb x o = r) (CP : ∀ W, Calls Tryz.prog 87 #[ob o] W fun e w' => e = .returned (ob x) ∧ Below W.heap.size W w')
    (CS : ∀ W, Below w.heap.size w W → Calls Tryz.prog 88 #[ob o] W fun e w' => e = .returned (.int .i64 s) ∧ Below W.heap.size W w') :
    Calls Tryz.prog 65 #[ch ⟨3, o⟩] w fun e w' => e = .returned (.bool (r && (s == 0))) ∧ Below w.heap.size w w' := by
  have hb : Below w.heap.size w w := Below.refl _ _
  have P := Lib.hid CP
  have S := Lib.hid CS
  have hE : ∀ W, (Op.equalIn 10000 35 (ob x) (ob o)).run Tryz.prog W = .ok r W := fun W => hr ▸ run_eqOb W x o
  clear CP CS hr
  go_enter Tryz.func65, Tryz.ntmps65
  go_wp2_with fail
  have mO := AtC.new w (chCells ⟨3, o⟩) 39
  have hb1 := bAl hb (.cells (chCells ⟨3, o⟩) 39)
  dsimp only [chCells] at mO hb1
  simp only [Int.cast_ofNat_Int] at mO hb1
  generalize w.alloc _ = W0 at *
  have cs : ∀ x : Ext W0, ∀ i, x.W.cell? ⟨w.heap.size, i, none⟩ = (chCells ⟨3, o⟩)[i]? := fun x => (mO.then x.b).c
  have HB := Lib.hid hb1
  clear mO hb hb1
  cases r with
  | true =>
    refine wp_region_ext (by kernel_rfl) (by kernel_rfl) ?_
    repeat (go_big_quiet_step (first
      | (go_at_call 87; exact ext_below (P.out _))
      | (go_at_call 88; exact ext_below (S.out _ (bThen HB.out (Ext.b _))))))
    refine wpQuiet_nil ?_
    rintro _ ⟨y, rfl⟩
    go_wp2
    go_ret
    exact ⟨rfl, bThen HB.out y.b⟩
  | false =>
    refine wp_region_ext (by kernel_rfl) (by kernel_rfl) ?_
    repeat (go_big_quiet_step (first
      | (go_at_call 87; exact ext_below (P.out _))
      | (go_at_call 88; exact ext_below (S.out _ (bThen HB.out (Ext.b _))))))
    refine wpQuiet_nil ?_
    rintro _ ⟨y, rfl⟩
    go_wp2
    go_ret
    exact ⟨rfl, bThen HB.out y.b⟩
set_option maxHeartbeats 4000000 in
theorem refOne_4 (o : Ob) (r : Bool) (w : World) (hr : eqOb o { zeroOb with handle := o.handle } = r) (ho : o.handle.size ≤ maxLen) :
    Calls Tryz.prog 65 #[ch ⟨4, o⟩] w fun e w' => e = .returned (.bool (r && HL.mayB o.handle)) ∧ Below w.heap.size w w' := by
  have hb : Below w.heap.size w w := Below.refl _ _
  have CC := Lib.hid (fun W => HL.refMay_any o.handle W ho)
  have hE : ∀ W, (Op.equalIn 10000 35 (ob o) (.agg #[.string o.handle, .int .u8 0, .string ⟨#[]⟩, .int .u8 0, .string ⟨#[]⟩, .int .i64 0, .int .i64 0, .int .u8 0, .bool false, .bool false, .int .i64 0, .int .i64 0, .int .i64 0, .int .u8 0])).run Tryz.prog W = .ok r W := fun W => hr ▸ run_eqOb W o { zeroOb with handle := o.handle }
  clear ho hr
  cases r with
  | true =>
    go_enter Tryz.func65, Tryz.ntmps65
    go_wp2_with (go_at_call 89; ((with_reducible refine (CC.out _).mono ?_); rintro e w1 ⟨rfl, rfl⟩))
    go_ret
    exact ⟨rfl, bAl (bAl hb _) _⟩
  | false =>
    go_enter Tryz.func65, Tryz.ntmps65
    go_wp2_with (go_at_call 89; ((with_reducible refine (CC.out _).mono ?_); rintro e w1 ⟨rfl, rfl⟩))
    go_ret
    exact ⟨rfl, bAl (bAl hb _) _⟩
end Go.Proofs.YtncahpbjbgcnbaaGreatDoor.DX
