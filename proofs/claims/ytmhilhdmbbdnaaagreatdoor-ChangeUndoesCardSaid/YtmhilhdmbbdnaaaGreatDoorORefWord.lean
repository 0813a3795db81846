/-
  WALKS: the document's Refers, Word, Bare, Only.
-/
import Derived.Test.YtmhilhdmbbdnaaaGreatDoorORefParts
namespace Go.Proofs.YtmhilhdmbbdnaaaGreatDoor
open Go.RowKit
set_option maxRecDepth 100000
set_option linter.unusedVariables false

def refersB (k : Nat) : Bool := decide (k = 6 ∨ k = 7 ∨ k = 8)
theorem refRefers_any (k : Nat) (w : World) (hk : k ≤ 255) : Calls Tryz.prog 129 #[.int .u8 k] w fun e w' => e = .returned (.bool (refersB k)) ∧ w = w' := by
  have HV : Hid (refersB k = (decide (k = 6) || (decide (k = 7) || decide (k = 8)))) := Lib.hid (by unfold refersB; simp)
  by_cases h6 : k = 6
  · subst h6
    go_enter Tryz.func129, Tryz.ntmps129
    go_wp2
    go_ret
    exact ⟨by rfl, rfl⟩
  · by_cases h7 : k = 7
    · subst h7
      go_enter Tryz.func129, Tryz.ntmps129
      go_wp2
      go_ret
      exact ⟨by rfl, rfl⟩
    · by_cases h8 : k = 8
      · subst h8
        go_enter Tryz.func129, Tryz.ntmps129
        go_wp2
        go_ret
        exact ⟨by rfl, rfl⟩
      · have e : refersB k = false := by unfold refersB; simp; omega
        have HE := Lib.hid e
        have i6 : ¬ (k : Int) = 6 := by omega
        have i7 : ¬ (k : Int) = 7 := by omega
        have i8 : ¬ (k : Int) = 8 := by omega
        clear h6 h7 h8 e HV
        go_enter Tryz.func129, Tryz.ntmps129
        go_wp2
        go_ret
        exact ⟨by rw [HE.out]; simp [*], rfl⟩
def wordOf (k : Nat) : ByteArray := match k with
  | 1 => ⟨#[109, 100, 115]⟩ | 2 => ⟨#[118, 109, 100]⟩ | 3 => ⟨#[99, 104, 97, 110, 110, 101, 108]⟩ | 4 => ⟨#[109, 101, 116, 114, 105, 99]⟩ | 5 => ⟨#[115, 121, 115, 116, 101, 109]⟩
  | 6 => ⟨#[99, 111, 110, 100, 105, 116, 105, 111, 110]⟩ | 7 => ⟨#[115, 105, 103, 110, 97, 108]⟩ | 8 => ⟨#[108, 105, 109, 105, 116]⟩ | 9 => ⟨#[99, 111, 110, 116, 101, 120, 116]⟩ | _ => ⟨#[]⟩
theorem word_none {k : Nat} (h : k = 0 ∨ 9 < k) : wordOf k = ⟨#[]⟩ := by
  unfold wordOf
  split <;> first | rfl | omega
set_option maxHeartbeats 4000000 in
theorem refWord_any (k : Nat) (w : World) (hk : k ≤ 255) : Calls Tryz.prog 127 #[.int .u8 k] w fun e w' => e = .returned (.string (wordOf k)) ∧ Below w.heap.size w w' := by
  have hb : Below w.heap.size w w := Below.refl _ _
  rcases (show k = 1 ∨ k = 2 ∨ k = 3 ∨ k = 4 ∨ k = 5 ∨ k = 6 ∨ k = 7 ∨ k = 8 ∨ k = 9 ∨ (k = 0 ∨ 9 < k) by omega) with rfl | rfl | rfl | rfl | rfl | rfl | rfl | rfl | rfl | h
  case inr.inr.inr.inr.inr.inr.inr.inr.inr =>
    have HW := Lib.hid (word_none h)
    rcases h with rfl | h
    · go_enter Tryz.func127, Tryz.ntmps127
      go_wp2
      go_ret
      exact ⟨by rw [HW.out]; rfl, bAl hb _⟩
    · have h1 : ¬ (k : Int) < 1 := by omega
      have h2 : (9 : Int) < k := by omega
      go_enter Tryz.func127, Tryz.ntmps127
      go_wp2
      go_ret
      exact ⟨by rw [HW.out]; rfl, bAl hb _⟩
  all_goals
    go_enter Tryz.func127, Tryz.ntmps127
    go_wp2
    go_ret
    exact ⟨by rfl, bAl hb _⟩
theorem refBare_any (o : Ob) (w : World) : Calls Tryz.prog 46 #[ob o] w fun e w' => e = .returned (ob (stateOf o zeroOb)) ∧ Below w.heap.size w w' := by
  have hb : Below w.heap.size w w := Below.refl _ _
  have C := fun W => Lib.hid (show Calls Tryz.prog 43 #[ob o, .agg #[.string ⟨#[]⟩, .int .u8 0, .string ⟨#[]⟩, .int .u8 0, .string ⟨#[]⟩, .int .i64 0, .int .i64 0, .int .u8 0, .bool false, .bool false, .int .i64 0, .int .i64 0, .int .i64 0, .int .u8 0]] W fun e w' => e = .returned (ob (stateOf o zeroOb)) ∧ Below W.heap.size W w' from refState_any o zeroOb W)
  go_enter Tryz.func46, Tryz.ntmps46
  go_wp2_with (go_at_call 43; ((with_reducible refine (C _).out.mono ?_); rintro e w1 ⟨rfl, k1⟩; replace hb := bThen (bAl (bAl hb _) _) k1; have mR := (AtC.new _ _ _).then k1; simp at mR; have rc := mR.c; have rf := mR.f; have rl := mR.lt))
  exact ret_ob rfl rfl rfl (AtC.fill mR rfl _ _ _ _ _ _ _ _ _ _ _ _ _ _) ⟨rfl, bFill hb (by omega) _ _ _ _ _ _ _ _ _ _ _ _ _ _⟩
theorem refOnly_any (o : Ob) (w : World) : Calls Tryz.prog 47 #[ob o] w fun e w' => e = .returned (ob (descOf o zeroOb)) ∧ Below w.heap.size w w' := by
  have hb : Below w.heap.size w w := Below.refl _ _
  have C := fun W => Lib.hid (show Calls Tryz.prog 42 #[ob o, .agg #[.string ⟨#[]⟩, .int .u8 0, .string ⟨#[]⟩, .int .u8 0, .string ⟨#[]⟩, .int .i64 0, .int .i64 0, .int .u8 0, .bool false, .bool false, .int .i64 0, .int .i64 0, .int .i64 0, .int .u8 0]] W fun e w' => e = .returned (ob (descOf o zeroOb)) ∧ Below W.heap.size W w' from refDesc_any o zeroOb W)
  go_enter Tryz.func47, Tryz.ntmps47
  go_wp2_with (go_at_call 42; ((with_reducible refine (C _).out.mono ?_); rintro e w1 ⟨rfl, k1⟩; replace hb := bThen (bAl (bAl hb _) _) k1; have mR := (AtC.new _ _ _).then k1; simp at mR; have rc := mR.c; have rf := mR.f; have rl := mR.lt))
  exact ret_ob rfl rfl rfl (AtC.fill mR rfl _ _ _ _ _ _ _ _ _ _ _ _ _ _) ⟨rfl, bFill hb (by omega) _ _ _ _ _ _ _ _ _ _ _ _ _ _⟩
end Go.Proofs.YtmhilhdmbbdnaaaGreatDoor
