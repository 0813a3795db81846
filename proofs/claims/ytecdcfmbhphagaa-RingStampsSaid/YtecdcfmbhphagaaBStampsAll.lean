/-
  WALK: the law RingStamps, whole.
-/
import Derived.Test.YtecdcfmbhphagaaBStampsLaw
namespace Go.Proofs.Ytecdcfmbhphagaa.BX
open Go.RowKit HL
open IX (ptr El cellsK cellsK_at cellsK_len OwnK RdK Kept)
set_option maxRecDepth 100000
set_option linter.unusedVariables false
set_option linter.unusedSimpArgs false

theorem stamps_walk (h : ByteArray) {A : Option Addr} (c : Nat) (l : List Nat) (o : ByteArray) (w : World) (hr : RdU w w.heap.size A l) (hle : ∀ x ∈ l, x ≤ 255) (hm : l.length ≤ maxLen) (hh0 : h.size ≤ maxLen) (ho0 : o.size ≤ maxLen) :
    Calls Try.prog 9 #[.string h, .slice A l.length c, .string o] w fun e w' => e = .returned (.bool true) ∧ Below w.heap.size w w' := by
  have AW := Lib.hid (awake_any w)
  unfold maxLen at hm hh0 ho0
  by_cases h1 : (h.size : Int) < 1
  · clear hr
    go_enter Try.func9, Try.ntmps9
    go_wp2_with (go_at_call 25; ((with_reducible refine AW.out.mono ?_); rintro e wa ⟨rfl, ka⟩; have KA := Lib.hid ka; clear ka))
    go_ret
    exact ⟨rfl, KA.out⟩
  · by_cases h2 : 16 < (h.size : Int)
    · clear hr
      go_enter Try.func9, Try.ntmps9
      go_wp2_with (go_at_call 25; ((with_reducible refine AW.out.mono ?_); rintro e wa ⟨rfl, ka⟩; have KA := Lib.hid ka; clear ka))
      go_ret
      exact ⟨rfl, KA.out⟩
    · by_cases h3 : 30 < (l.length : Int)
      · clear hr
        go_enter Try.func9, Try.ntmps9
        go_wp2_with (go_at_call 25; ((with_reducible refine AW.out.mono ?_); rintro e wa ⟨rfl, ka⟩; have KA := Lib.hid ka; clear ka))
        go_ret
        exact ⟨rfl, KA.out⟩
      · by_cases h4 : 60 < (o.size : Int)
        · clear hr
          go_enter Try.func9, Try.ntmps9
          go_wp2_with (go_at_call 25; ((with_reducible refine AW.out.mono ?_); rintro e wa ⟨rfl, ka⟩; have KA := Lib.hid ka; clear ka))
          go_ret
          exact ⟨rfl, KA.out⟩
        · exact stamps_main h o c l w hr hle (by omega) (by omega) (by omega) (by omega)
end Go.Proofs.Ytecdcfmbhphagaa.BX
