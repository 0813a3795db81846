/-
  The law WireOne walked.
-/
import Derived.Test.YtjocbokfdfdkeaaGreatLZLOneN
import Derived.Test.YtjocbokfdfdkeaaGreatLZLOneQ
import Derived.Test.YtjocbokfdfdkeaaGreatLZLOneY
import Derived.Test.YtjocbokfdfdkeaaGreatLZLOneR
import Derived.OwnWalk
import Derived.RangeFuncNested
import Derived.Deep.CutRange
namespace Go.Proofs.YtjocbokfdfdkeaaGreat.PX
open Go.RowKit HL
open IX (ptr El cellsK cellsK_at cellsK_len OwnK RdK Kept strK slice_toK wpList_spreadK)
open YX (numB rdU rdB rdT rdS rdI addW intN natI rest told WAt WPt Wr RAt vS vU vI u8K Got)
open DX (Ch ch chCells chK zeroCh)
set_option maxRecDepth 100000
set_option linter.unusedVariables false
set_option linter.unusedSimpArgs false

theorem one14_walk (A : Option Addr) (c : Nat) (b : Bs) (i : Int) (x : UInt8) (w : World) (h : RdK u8K w w.heap.size A b) (hA : A = none → c = 0) (hc : b.length ≤ c) (hm : b.length ≤ maxLen) :
    Calls Tryz.prog 6 #[.slice A b.length c, .int .i64 i, .int .u8 (x.toNat : Int)] w fun e w' => e = .returned (.bool true) ∧ Below w.heap.size w w' := by
  by_cases hl : 3000 < b.length
  · have CA := Lib.hid (JX.awake14_any w)
    have i1 : (3000 : Int) < (b.length : Int) := by omega
    clear h
    go_enter Tryz.func6, Tryz.ntmps6
    go_wp2_with (go_at_call 26; ((refine CA.out.mono ?_); rintro e w1 ⟨rfl, k1⟩; have K1 := Lib.hid k1; clear k1))
    go_ret
    exact ⟨rfl, K1.out⟩
  · cases hQ : readQ b with
    | some q =>
      obtain ⟨g1, g2⟩ := (onlyQ hQ).2 b (.inl rfl)
      exact one14_q A c b i x w h hA hc hm (by omega) hQ g2 g1
    | none =>
      cases hY : readY b with
      | some q =>
        obtain ⟨g1, g2⟩ := (onlyY hY).2 b (.inl rfl)
        exact one14_y A c b i x w h hA hc hm (by omega) hQ hY g2
      | none =>
        cases hR : readR b with
        | some q => exact one14_r A c b i x w h hA hc hm (by omega) hQ hY hR
        | none => exact one14_n A c b i x w h hA hc hm (by omega) hQ hY hR
theorem one14_walk8 (A : Option Addr) (c : Nat) (b : Bs) (i : Int) (e : Nat) (he : e ≤ 255) (w : World) (h : RdK u8K w w.heap.size A b) (hA : A = none → c = 0) (hc : b.length ≤ c) (hm : b.length ≤ maxLen) :
    Calls Tryz.prog 6 #[.slice A b.length c, .int .i64 i, .int .u8 (e : Int)] w fun e w' => e = .returned (.bool true) ∧ Below w.heap.size w w' := by
  have := one14_walk A c b i (UInt8.ofNat e) w h hA hc hm
  rw [YX.u8n (by omega)] at this
  exact this
end Go.Proofs.YtjocbokfdfdkeaaGreat.PX
