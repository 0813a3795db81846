/-
  PLAIN: '==' of two objects, of two changes, as one law for the walk.
-/
import Derived.Test.YtkgjgbenfpkekaaGreatDKit
namespace Go.Proofs.YtkgjgbenfpkekaaGreat.DX
open Go.RowKit HL
open WX (tl_ne bs_eq)
set_option maxRecDepth 100000
set_option linter.unusedVariables false
set_option linter.unusedSimpArgs false

theorem and_ob {a b : Ob} : eqOb a b = ((a.handle.toList == b.handle.toList) && ((a.kind : Int) == b.kind) && (a.parent.toList == b.parent.toList) && ((a.typ : Int) == b.typ) && (a.ref.toList == b.ref.toList) && (a.lo == b.lo) && (a.hi == b.hi) && ((a.digits : Int) == b.digits) && (a.on == b.on) && (a.has == b.has) && (a.value == b.value) && (a.low == b.low) && (a.high == b.high) && ((a.assoc : Int) == b.assoc)) := by
  rw [Bool.eq_iff_iff, eqOb_iff]
  simp only [str_b, u8_b, Bool.and_eq_true, beq_iff_eq, decide_eq_true_eq]
  obtain ⟨a0, a1, a2, a3, a4, a5, a6, a7, a8, a9, a10, a11, a12, a13⟩ := a
  obtain ⟨b0, b1, b2, b3, b4, b5, b6, b7, b8, b9, b10, b11, b12, b13⟩ := b
  simp [and_assoc]
theorem and_ch {a b : Ch} : eqCh a b = (((a.kind : Int) == b.kind) && eqOb a.o b.o) := by
  rw [Bool.eq_iff_iff, eqCh_iff, Bool.and_eq_true, eqOb_iff, u8_b, decide_eq_true_eq]
  obtain ⟨a0, a1⟩ := a
  obtain ⟨b0, b1⟩ := b
  simp
theorem if_ok (p : Prop) [Decidable p] (r : Bool) (W : World) : (if p then Result.ok r W else Result.ok false W) = Result.ok (decide p && r) W := by
  by_cases h : p <;> simp [h]
set_option maxHeartbeats 4000000 in
theorem run_eqOb (W : World) (a b : Ob) : (Op.equalIn 10000 45 (ob a) (ob b)).run Tryz.prog W = .ok (eqOb a b) W := by
  rw [and_ob]
  go_simp
  have e : ∀ r : Bool, (if (a.assoc : Int) = b.assoc then Result.ok true W else Result.ok false W) = Result.ok (decide ((a.assoc : Int) = b.assoc)) W := fun _ => by by_cases h : (a.assoc : Int) = b.assoc <;> simp [h]
  rw [e true]
  simp only [if_ok]
  congr 1
  simp only [Bool.beq_eq_decide_eq, Bool.and_assoc]
set_option maxHeartbeats 4000000 in
theorem run_eqCh (W : World) (a b : Ch) : (Op.equalIn 10000 47 (ch a) (ch b)).run Tryz.prog W = .ok (eqCh a b) W := by
  rw [and_ch, and_ob]
  go_simp
  have e : ∀ r : Bool, (if (a.o.assoc : Int) = b.o.assoc then Result.ok true W else Result.ok false W) = Result.ok (decide ((a.o.assoc : Int) = b.o.assoc)) W := fun _ => by by_cases h : (a.o.assoc : Int) = b.o.assoc <;> simp [h]
  rw [e true]
  simp only [if_ok]
  congr 1
  simp only [Bool.beq_eq_decide_eq, Bool.and_assoc]
end Go.Proofs.YtkgjgbenfpkekaaGreat.DX
