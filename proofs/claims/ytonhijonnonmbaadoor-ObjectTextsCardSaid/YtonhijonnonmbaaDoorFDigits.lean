/-
  WALK: the document's Digits.
-/
import Derived.Test.YtonhijonnonmbaaDoorFNum2
import Derived.Laws.IdiomStrings
namespace Go.Proofs.YtonhijonnonmbaaDoor
open Go.RowKit FixMath
set_option maxRecDepth 100000
set_option linter.unusedVariables false

abbrev str (l : Bs) : Value := .string ⟨l.toArray⟩
theorem bytes_add (a b : Bs) : (⟨a.toArray⟩ : ByteArray) ++ ⟨b.toArray⟩ = ⟨(a ++ b).toArray⟩ := by
  apply ByteArray.ext
  rw [ByteArray.data_append]
  simp

theorem conv_dig (q : Nat) (wr : World) : (convert 70 9 (.slice (some ⟨wr.heap.size, 0, none⟩) 1 1)).run Tryd.prog (wr.alloc (.cells #[.int .u8 (48 + (q : Int) % 10)] 5)) = .ok (.string ⟨#[dig q]⟩) (wr.alloc (.cells #[.int .u8 (48 + (q : Int) % 10)] 5)) :=
  run_convert_bytes_back (l := [dig q]) _ _ _ 5 _ _ Tryd.underlying70 Tryd.underlying5 Tryd.underlying9 (fun j hj => by
    obtain rfl : j = 0 := by simp at hj; omega
    have : ((dig q).toNat : Int) = 48 + (q : Int) % 10 := by rw [dig_toNat]; omega
    simp [World.cell?_alloc_mark, Addr.add, this])
theorem digits_any (m least K : Nat) (w : World) (hm : m ≤ 1000000000000000) (hl : least ≤ 6) (hK : K ≤ 16) (h1 : ∀ k, k < K → m / 10 ^ k ≠ 0 ∨ k < least) (h2 : m / 10 ^ K = 0) (h3 : least ≤ K) :
    Calls Tryd.prog 69 #[.int .i64 m, .int .i64 least] w fun e w' => e = .returned (str (low K m)) ∧ Below w.heap.size w w' := by
  have H1 := Lib.hid h1
  have H2 := Lib.hid h2
  clear h1 h2
  go_enter Tryd.func69, Tryd.ntmps69
  go_wp2
  go_loopw [0, 1, 5] (fun n l s wr => ∃ k q : Nat, k ≤ K ∧ n = .int .i64 q ∧ Hid (q = m / 10 ^ k) ∧ l = .int .i64 ((least : Int) - k) ∧ s = str (low k m) ∧ Below w.heap.size w wr) (fun _ l _ _ => (16 - (least - intOf l)).toNat)
  case atStart => exact ⟨0, m, Nat.zero_le _, rfl, Lib.hid (by simp), by simp, rfl, Below.refl _ _⟩
  case round =>
    obtain ⟨k, q, hk, rfl, HQ, rfl, rfl, hb⟩ := hrel
    have hle : q ≤ 1000000000000000 := by have := HQ.out; have := Nat.div_le_self m (10 ^ k); omega
    by_cases hlt : k < K
    · have hor : 0 < q ∨ (¬ 0 < q ∧ k < least) := by
        have := H1.out k hlt
        have := HQ.out
        omega
      have hmod : q % 10 < 10 := Nat.mod_lt _ (by omega)
      have hconv := conv_dig q wr
      have hlen : (low k m).length ≤ 16 := by rw [low_length]; omega
      have HS : Hid (low (k + 1) m = dig q :: low k m) := Lib.hid (by rw [low_succ, HQ.out])
      have HQ' : Hid (q / 10 = m / 10 ^ (k + 1)) := Lib.hid (by rw [HQ.out, div_pow_succ])
      rcases hor with hz | ⟨hz, hlk⟩
      all_goals
        go_wp2
        go_roundw
        case rel => exact ⟨k + 1, q / 10, by omega, by go_num, HQ', by go_num, by rw [HS.out]; exact congrArg _ (bytes_add [dig q] (low k m)), hb.trans ((Below.refl _ _).alloc hb.size _)⟩
        case measure => simp [intOf]; omega
    · obtain rfl : k = K := by omega
      have hz : ¬ 0 < q := by have := HQ.out; rw [H2.out] at this; omega
      have hl : ¬ k < least := by omega
      go_wp2
      go_ret
      exact ⟨rfl, hb⟩
end Go.Proofs.YtonhijonnonmbaaDoor
