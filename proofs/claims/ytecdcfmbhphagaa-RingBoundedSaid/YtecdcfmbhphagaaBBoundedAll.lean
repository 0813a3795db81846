/-
  WALK: the law RingBounded, whole.
-/
import Derived.Test.YtecdcfmbhphagaaBBoundedLaw
namespace Go.Proofs.Ytecdcfmbhphagaa.BX
open Go.RowKit HL
open IX (ptr El cellsK cellsK_at cellsK_len OwnK RdK Kept)
set_option maxRecDepth 100000
set_option linter.unusedVariables false
set_option linter.unusedSimpArgs false

theorem bounded_walk (h : ByteArray) (s : Int) {A : Option Addr} (c : Nat) (l : List Act) (w : World) (hr : RdK actK w w.heap.size A l) (hm : l.length ≤ maxLen) (hh0 : h.size ≤ maxLen) :
    Calls Try.prog 7 #[.string h, .int .i64 s, .slice A l.length c] w fun e w' => e = .returned (.bool true) ∧ Below w.heap.size w w' := by
  have AW := Lib.hid (awake_any w)
  unfold maxLen at hm hh0
  by_cases hh : h.size ≤ 60
  · by_cases hl : l.length ≤ 100
    · cases hb : newB h s with
      | true =>
        obtain ⟨n, rfl⟩ := newB_nat hb
        exact bounded_main h n c l w hr hh hl hb
      | false =>
        have NW := Lib.hid (fun W => new_no h s W hh hb)
        clear hr hb
        go_enter Try.func7, Try.ntmps7
        go_wp2_with (first
          | (go_at_call 25; ((with_reducible refine AW.out.mono ?_); rintro e wa ⟨rfl, ka⟩; have KA := Lib.hid ka; clear ka))
          | (go_at_call 10; ((with_reducible refine (NW.out _).mono ?_); rintro e wn ⟨rfl, rfl⟩)))
        go_ret
        exact ⟨rfl, KA.out⟩
    · clear hr
      go_enter Try.func7, Try.ntmps7
      go_wp2_with (go_at_call 25; ((with_reducible refine AW.out.mono ?_); rintro e wa ⟨rfl, ka⟩; have KA := Lib.hid ka; clear ka))
      go_ret
      exact ⟨rfl, KA.out⟩
  · clear hr
    go_enter Try.func7, Try.ntmps7
    go_wp2_with (go_at_call 25; ((with_reducible refine AW.out.mono ?_); rintro e wa ⟨rfl, ka⟩; have KA := Lib.hid ka; clear ka))
    go_ret
    exact ⟨rfl, KA.out⟩
end Go.Proofs.Ytecdcfmbhphagaa.BX
