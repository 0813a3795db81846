/-
  WALK: the law RingSteady, whole.
-/
import Derived.Test.YtecdcfmbhphagaaBSteadyLaw
namespace Go.Proofs.Ytecdcfmbhphagaa.BX
open Go.RowKit HL
open IX (ptr El cellsK cellsK_at cellsK_len OwnK RdK Kept)
set_option maxRecDepth 100000
set_option linter.unusedVariables false
set_option linter.unusedSimpArgs false

theorem newB_nat {h : ByteArray} {s : Int} (hb : newB h s = true) : ∃ n : Nat, s = n := by
  simp only [newB, Bool.and_eq_true, decide_eq_true_eq] at hb
  exact ⟨s.toNat, by omega⟩
theorem steady_walk (h : ByteArray) (s : Int) {A : Option Addr} (c : Nat) (l : List Act) (ver : Int) (w : World) (hr : RdK actK w w.heap.size A l) (hm : l.length ≤ maxLen) (hh0 : h.size ≤ maxLen) :
    Calls Try.prog 8 #[.string h, .int .i64 s, .slice A l.length c, .int .i64 ver] w fun e w' => e = .returned (.bool true) ∧ Below w.heap.size w w' := by
  have AW := Lib.hid (awake_any w)
  unfold maxLen at hm hh0
  by_cases hh : h.size ≤ 60
  · by_cases hl : l.length ≤ 100
    · by_cases hv : 0 ≤ ver
      · cases hb : newB h s with
        | true =>
          obtain ⟨n, rfl⟩ := newB_nat hb
          exact steady_main h n c l ver w hr hh hl hv hb
        | false =>
          have NW := Lib.hid (fun W => new_no h s W hh hb)
          clear hr hb
          have hv0 : ¬ ver < 0 := by omega
          go_enter Try.func8, Try.ntmps8
          go_wp2_with (first
            | (go_at_call 25; ((with_reducible refine AW.out.mono ?_); rintro e wa ⟨rfl, ka⟩; have KA := Lib.hid ka; clear ka))
            | (go_at_call 10; ((with_reducible refine (NW.out _).mono ?_); rintro e wn ⟨rfl, rfl⟩)))
          go_ret
          exact ⟨rfl, KA.out⟩
      · have hv0 : ver < 0 := by omega
        clear hr hv
        go_enter Try.func8, Try.ntmps8
        go_wp2_with (go_at_call 25; ((with_reducible refine AW.out.mono ?_); rintro e wa ⟨rfl, ka⟩; have KA := Lib.hid ka; clear ka))
        go_ret
        exact ⟨rfl, KA.out⟩
    · clear hr
      go_enter Try.func8, Try.ntmps8
      go_wp2_with (go_at_call 25; ((with_reducible refine AW.out.mono ?_); rintro e wa ⟨rfl, ka⟩; have KA := Lib.hid ka; clear ka))
      go_ret
      exact ⟨rfl, KA.out⟩
  · clear hr
    go_enter Try.func8, Try.ntmps8
    go_wp2_with (go_at_call 25; ((with_reducible refine AW.out.mono ?_); rintro e wa ⟨rfl, ka⟩; have KA := Lib.hid ka; clear ka))
    go_ret
    exact ⟨rfl, KA.out⟩
end Go.Proofs.Ytecdcfmbhphagaa.BX
