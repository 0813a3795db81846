/-
  WALK: the document's Text.
-/
import Derived.Test.YtonhijonnonmbaaDoorFDigits
namespace Go.Proofs.YtonhijonnonmbaaDoor
open Go.RowKit FixMath
set_option maxRecDepth 100000
set_option linter.unusedVariables false
set_option linter.unusedSimpArgs false

def textV (n : Int) (d : Nat) : Value := if countsB n d = true then .tuple #[str (fixText n d), .int .i64 0] else .tuple #[str [], .int .i64 20]
theorem textV_t {n : Int} {d : Nat} (h : countsB n d = true) {s : Bs} (hs : fixText n d = s) : textV n d = .tuple #[str s, .int .i64 0] := by unfold textV; rw [if_pos h, hs]
theorem textV_f {n : Int} {d : Nat} (h : ¬ countsB n d = true) : textV n d = .tuple #[str [], .int .i64 20] := by unfold textV; rw [if_neg h]
theorem str_eq {a b : Bs} (h : a = b) (e : Int) : Ending.returned (.tuple #[str a, .int .i64 e]) = Ending.returned (.tuple #[str b, .int .i64 e]) := by rw [h]

theorem ret_bytes3 {x : ByteArray} {a b c s : Bs} {e : Int} (h : x = (⟨a.toArray⟩ : ByteArray) ++ ⟨b.toArray⟩ ++ ⟨c.toArray⟩) (hs : s = a ++ b ++ c) : Ending.returned (.tuple #[.string x, .int .i64 e]) = Ending.returned (.tuple #[str s, .int .i64 e]) := by rw [h, bytes_add, bytes_add, hs]
theorem ret_bytes {x : ByteArray} {b : Bs} {e : Int} (h : x = ⟨b.toArray⟩) : Ending.returned (.tuple #[.string x, .int .i64 e]) = Ending.returned (.tuple #[str b, .int .i64 e]) := by rw [h]
/-- What the first call of Digits gives, and the second. -/
theorem digits_whole (m d : Nat) (hm : m ≤ 1000000000000000) (hd : d ≤ 6) (w : World) :
    Calls Tryd.prog 69 #[.int .i64 (m / 10 ^ d : Nat), .int .i64 1] w fun e w' => e = .returned (str (low (nd (m / 10 ^ d)) (m / 10 ^ d))) ∧ Below w.heap.size w w' := by
  have h1 : m / 10 ^ d ≤ m := Nat.div_le_self _ _
  have h2 : nd (m / 10 ^ d) ≤ 16 := nd_le (by omega) (by omega)
  refine digits_any (m / 10 ^ d) 1 (nd (m / 10 ^ d)) w (by omega) (by omega) h2 (fun k hk => ?_) ((nd_iff _ _ (nd_pos _)).2 (Nat.le_refl _)) (nd_pos _)
  by_cases h0 : k = 0
  · exact .inr (by omega)
  · exact .inl (lt_nd (by omega) hk)
theorem digits_part (m d : Nat) (hm : m ≤ 1000000000000000) (hd : d ≤ 6) (w : World) :
    Calls Tryd.prog 69 #[.int .i64 (m % 10 ^ d : Nat), .int .i64 d] w fun e w' => e = .returned (str (low d m)) ∧ Below w.heap.size w w' := by
  have h1 : m % 10 ^ d ≤ m := Nat.mod_le _ _
  have h2 := digits_any (m % 10 ^ d) d d w (by omega) hd (by omega) (fun k hk => .inr hk) (Nat.div_eq_of_lt (Nat.mod_lt _ (pow_pos' d))) (Nat.le_refl _)
  rw [low_mod d d m (Nat.le_refl _)] at h2
  exact h2

theorem digits_whole0 (m : Nat) (hm : m ≤ 1000000000000000) (w : World) :
    Calls Tryd.prog 69 #[.int .i64 m, .int .i64 1] w fun e w' => e = .returned (str (low (nd m) m)) ∧ Below w.heap.size w w' := by
  have h := digits_whole m 0 hm (by omega) w
  rw [Nat.pow_zero, Nat.div_one] at h
  exact h
end Go.Proofs.YtonhijonnonmbaaDoor
