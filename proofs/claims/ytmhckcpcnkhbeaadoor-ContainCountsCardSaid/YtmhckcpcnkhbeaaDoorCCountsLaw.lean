/-
  WALK: the law ContainCounts.
-/
import Derived.Test.YtmhckcpcnkhbeaaDoorCRefCount
namespace Go.Proofs.YtmhckcpcnkhbeaaDoor
open Go.RowKit
set_option maxRecDepth 100000
set_option linter.unusedVariables false
set_option linter.unusedSimpArgs false

set_option maxHeartbeats 4000000 in
theorem counts_walk {A : Option Addr} (l : List Nat) (c k : Nat) (w : World) (hk : k ≤ 255) (hr : RdU w w.heap.size A l) (hx : ∀ x ∈ l, x ≤ 255) (hm : l.length ≤ maxLen) (hw : Tables w) :
    Calls Tryd.prog 4 #[.slice A l.length c, .int .u8 k] w fun e w' => e = .returned (.bool true) ∧ Below w.heap.size w w' := by
  unfold maxLen at hm
  have hb : Below w.heap.size w w := Below.refl _ _
  by_cases hl : 200 < l.length
  · have i1 : (200 : Int) < l.length := by omega
    go_enter Tryd.func4, Tryd.ntmps4
    go_wp2
    go_ret
    exact ⟨rfl, hb⟩
  · have i1 : ¬ (200 : Int) < l.length := by omega
    have C1 := Lib.hid (fun W (q : Below w.heap.size w W) => count_any l c w.heap.size W (hr.below q) q.size hx (by omega) (hw.then q))
    have C2 := Lib.hid (fun W (q : Below w.heap.size w W) => refCount_any l c w.heap.size W (hr.below q) (by omega))
    have C3 := Lib.hid (fun W (q : Below w.heap.size w W) => room_any k l c w.heap.size W hk (hr.below q) q.size hx (by omega) (hw.then q))
    have C4 := Lib.hid (fun W (q : Below w.heap.size w W) => refRoom_any k l c w.heap.size W hk (hr.below q) (by omega))
    clear hr hx hw hl
    generalize countE l = a at *
    generalize roomE k l = b at *
    go_enter Tryd.func4, Tryd.ntmps4
    go_wp2_with (first
      | (go_at_call 26; ((with_reducible refine (C1.out _ hb).mono ?_); rintro e w1 ⟨rfl, k1⟩; replace hb := bThen hb k1))
      | (go_at_call 27; ((with_reducible refine (C2.out _ hb).mono ?_); rintro e w1 ⟨rfl, k1⟩; replace hb := bThen hb k1))
      | (go_at_call 28; ((with_reducible refine (C3.out _ hb).mono ?_); rintro e w1 ⟨rfl, k1⟩; replace hb := bThen hb k1))
      | (go_at_call 29; ((with_reducible refine (C4.out _ hb).mono ?_); rintro e w1 ⟨rfl, rfl⟩)))
    go_ret
    exact ⟨rfl, hb⟩
end Go.Proofs.YtmhckcpcnkhbeaaDoor
