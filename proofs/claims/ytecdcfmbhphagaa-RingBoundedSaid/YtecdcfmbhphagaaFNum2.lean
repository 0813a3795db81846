/-
  WALKS: a number with digits; units by the loop; comparison; a number's two parts; the sum.
-/
import Derived.Test.YtecdcfmbhphagaaFNum
import Derived.Deep.QuietTactic
import Derived.BigQuiet
namespace Go.Proofs.Ytecdcfmbhphagaa
open Go.RowKit FixMath
set_option maxRecDepth 100000
set_option linter.unusedVariables false

theorem Dr_refl (w : World) : ∃ n, w = w.drewN n := ⟨0, rfl⟩
/-- w' is w but for draws. -/
def Dr (w w' : World) : Prop := ∃ n, w' = w.drewN n
theorem Dr.refl (w : World) : Dr w w := ⟨0, rfl⟩
theorem Dr.one (w : World) (a : Nat) : Dr w (w.drewN a) := ⟨a, rfl⟩
theorem Dr.trans {a b c : World} (h : Dr a b) (k : Dr b c) : Dr a c := by
  obtain ⟨n, rfl⟩ := h; obtain ⟨m, rfl⟩ := k; exact ⟨_, World.drewN_drewN _ _ _⟩
theorem Dr.below {w w' : World} (h : Dr w w') (B : Nat) : Below B w w' := by
  obtain ⟨n, rfl⟩ := h
  exact ⟨rfl, rfl, rfl, Nat.le_refl _, fun _ _ => rfl⟩
theorem Units.dr {w w' : World} (h : Units w) (k : Dr w w') : Units w' := by
  obtain ⟨n, rfl⟩ := k
  exact h

/-- A callee that leaves the world alone, met behind draws that were joined. -/
theorem qj {P : Program} {f : FuncId} {args : Array Value} {w : World} {a n : Nat} {v : Value} (h : Calls P f args (w.drewN (a + n)) fun e w' => e = .returned v ∧ w.drewN (a + n) = w') :
    Calls P f args (w.drewN (a + n)) fun e w' => e = .returned v ∧ ∃ m, w' = w.drewN (a + m) := h.mono fun _ _ k => ⟨k.1, n, k.2.symm⟩
theorem q1 {P : Program} {f : FuncId} {args : Array Value} {w : World} {n : Nat} {v : Value} (h : Calls P f args (w.drewN n) fun e w' => e = .returned v ∧ w.drewN n = w') :
    Calls P f args (w.drewN n) fun e w' => e = .returned v ∧ ∃ m, w' = w.drewN m := h.mono fun _ _ k => ⟨k.1, n, k.2.symm⟩
theorem unitN_pos {d : Nat} (h : d ≤ 6) : 1 ≤ unitN d ∧ unitN d ≤ 1000000 := by
  unfold unitN
  rw [if_pos h]
  exact ⟨Nat.pow_pos (by omega), Nat.pow_le_pow_right (n := 10) (by omega) h⟩
theorem unitN_mul {a b : Nat} (h : a + b ≤ 6) : unitN a * unitN b = unitN (a + b) := by
  unfold unitN
  rw [if_pos h, if_pos (by omega), if_pos (by omega), Nat.pow_add]
theorem unitN_succ {d : Nat} (h : d < 6) : unitN (d + 1) = 10 * unitN d := by
  unfold unitN
  rw [if_pos (by omega), if_pos (by omega), Nat.pow_succ, Nat.mul_comm]

def countsB (n : Int) (d : Nat) : Bool := mayB n && decide (d ≤ 6)
theorem countsB_t {n : Int} {d : Nat} (h : mayB n = true) (hd : d ≤ 6) : countsB n d = true := by simp [countsB, h, hd]
theorem countsB_f1 {n : Int} {d : Nat} (h : mayB n = false) : countsB n d = false := by simp [countsB, h]
theorem countsB_f2 {n : Int} {d : Nat} (hd : 6 < d) : countsB n d = false := by simp [countsB]; omega
theorem countsB_out {n : Int} {d : Nat} (h : countsB n d = true) : -1000000000000000 ≤ n ∧ n ≤ 1000000000000000 ∧ d ≤ 6 := by
  simp [countsB, mayB] at h; omega
theorem countsB_iff {n : Int} {d : Nat} : countsB n d = true ↔ -1000000000000000 ≤ n ∧ n ≤ 1000000000000000 ∧ d ≤ 6 := by
  simp [countsB, mayB]; omega

def wholeZ (n : Int) (d : Nat) : Int := n.tdiv (unitN d)
def restZ (n : Int) (d : Nat) : Int := n.tmod (unitN d) * unitN (6 - d)
theorem parts_bounds (n : Int) (d : Nat) (h : -1000000000000000 ≤ n ∧ n ≤ 1000000000000000) (hd : d ≤ 6) :
    (-1000000000000000 ≤ n.tdiv (unitN d) ∧ n.tdiv (unitN d) ≤ 1000000000000000) ∧ (-1000000 ≤ n.tmod (unitN d) ∧ n.tmod (unitN d) ≤ 1000000) ∧ (-1000000 ≤ restZ n d ∧ restZ n d ≤ 1000000) := by
  have hu := unitN_pos hd
  have hm := unitN_mul (a := d) (b := 6 - d) (by omega)
  have e6 : unitN (d + (6 - d)) = 1000000 := by rw [show d + (6 - d) = 6 by omega]; rfl
  rw [e6] at hm
  unfold restZ
  generalize unitN d = u at *
  generalize unitN (6 - d) = v at *
  have h1 : (n.tdiv u).natAbs = n.natAbs / u := by rw [Int.natAbs_tdiv]; rfl
  have h1' : n.natAbs / u ≤ n.natAbs := Nat.div_le_self _ _
  have h2 : (n.tmod u).natAbs = n.natAbs % u := by rw [Int.natAbs_tmod]; simp
  have h2' : n.natAbs % u < u := Nat.mod_lt _ (by omega)
  have h3 : (n.tmod u * v).natAbs = n.natAbs % u * v := by rw [Int.natAbs_mul, h2]; simp
  have h3' : n.natAbs % u * v ≤ u * v := Nat.mul_le_mul_right _ (by omega)
  refine ⟨by omega, by omega, by omega⟩

end Go.Proofs.Ytecdcfmbhphagaa
