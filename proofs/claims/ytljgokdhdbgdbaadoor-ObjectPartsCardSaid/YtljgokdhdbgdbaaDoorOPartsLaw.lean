/-
  WALK: the law ObjectParts.
-/
import Derived.Test.YtljgokdhdbgdbaaDoorOParts
import Derived.Test.YtljgokdhdbgdbaaDoorOTab
import Derived.Test.YtljgokdhdbgdbaaDoorOLong
import Derived.Deep.RegionHeld3
namespace Go.Proofs.YtljgokdhdbgdbaaDoor
open Go.RowKit
set_option maxRecDepth 100000
set_option linter.unusedVariables false

set_option maxHeartbeats 8000000 in
theorem parts_walk (o f : Ob) (w : World) (hk : o.kind ≤ 255) (hw : Words w) : Calls Tryd.prog 4 #[ob o, ob f] w fun e w' => e = .returned (.bool true) ∧ Below w.heap.size w w' := by
  have hb : Below w.heap.size w w := Below.refl _ _
  have L1 := fun W => Lib.hid (long_any o W)
  have L2 := fun W => Lib.hid (long_any f W)
  generalize longB o = l1 at *
  generalize longB f = l2 at *
  have hWw := Lib.hid (fun W (k : Below w.heap.size w W) => word_any o.kind W hk (hw.then k))
  clear hw
  cases l1 with
  | true =>
    clear hWw
    go_enter Tryd.func4, Tryd.ntmps4
    go_wp2_with (go_at_call 10; ((with_reducible refine (L1 _).out.mono ?_); rintro e w1 ⟨rfl, k1⟩; replace hb := bThen (bAl (bAl hb _) _) k1))
    go_ret
    exact ⟨by simp, hb⟩
  | false =>
    cases l2 with
    | true =>
      clear hWw
      go_enter Tryd.func4, Tryd.ntmps4
      go_wp2_with fail
      go_at_call 10; (with_reducible refine (L1 _).out.mono ?_); rintro e w1 ⟨rfl, k1⟩
      replace hb := bThen (bAl (bAl hb _) _) k1
      have mF := (AtC.new _ _ _).then k1; simp at mF; have fc := mF.c; have fl := mF.lt
      go_wp2_with fail
      go_at_call 10; (with_reducible refine (L2 _).out.mono ?_); rintro e w2 ⟨rfl, k2⟩
      replace hb := bThen hb k2
      clear fc
      go_wp2_with fail
      go_ret
      exact ⟨by simp, hb⟩
    | false =>
      go_enter Tryd.func4, Tryd.ntmps4
      go_wp2_with fail
      go_at_call 10; (with_reducible refine (L1 _).out.mono ?_); rintro e w1 ⟨rfl, k1⟩
      replace hb := bThen (bAl (bAl hb _) _) k1
      have mO := ((AtC.new _ _ _).al _).then k1; have mF := (AtC.new _ _ _).then k1; simp at mO mF; have oc := mO.c; have fc := mF.c
      go_wp2_with fail
      go_at_call 10; (with_reducible refine (L2 _).out.mono ?_); rintro e W0 ⟨rfl, k2⟩
      replace hb := bThen hb k2
      replace mO := mO.then k2; replace mF := mF.then k2
      clear oc fc
      have CD := fun W => Lib.hid (desc_any o f W)
      have CE := fun W => Lib.hid (refDesc_any o f W)
      have CS := fun W => Lib.hid (state_any o f W)
      have CT := fun W => Lib.hid (refState_any o f W)
      have CB := fun W => Lib.hid (bare_any o W)
      have CC := fun W => Lib.hid (refBare_any o W)
      have CO := fun W => Lib.hid (only_any o W)
      have CP := fun W => Lib.hid (refOnly_any o W)
      have CW := fun W (k : Below W0.heap.size W0 W) => Lib.hid (hWw.out W (bThen hb k))
      have CX := fun W => Lib.hid (refWord_any o.kind W hk)
      have hP : ∀ w', Below W0.heap.size W0 w' → ((∀ i, w'.cell? ⟨w.heap.size, i, none⟩ = (obCells o)[i]?) ∧ (∀ i, w'.cell? ⟨w.heap.size + 1, i, none⟩ = (obCells f)[i]?)) := fun w' k => ⟨(mO.then k).c, (mF.then k).c⟩
      clear hWw L1 L2
      go_wp2_with fail
      go_region_held3 (fun w' => ((∀ i, w'.cell? ⟨w.heap.size, i, none⟩ = (obCells o)[i]?) ∧ (∀ i, w'.cell? ⟨w.heap.size + 1, i, none⟩ = (obCells f)[i]?)) ∧ Below W0.heap.size W0 w')
        (first | assumption | exact ⟨hP _ (Below.refl _ _).drew, (Below.refl _ _).drew⟩ | exact ⟨hP _ (keepD (by assumption) k3), keepD (by assumption) k3⟩)
        (first
        | (go_at_call 17; (with_reducible refine (CD _).out.mono ?_); rintro e w3 ⟨rfl, k3⟩)
        | (go_at_call 18; (with_reducible refine (CE _).out.mono ?_); rintro e w3 ⟨rfl, k3⟩)
        | (go_at_call 19; (with_reducible refine (CS _).out.mono ?_); rintro e w3 ⟨rfl, k3⟩)
        | (go_at_call 20; (with_reducible refine (CT _).out.mono ?_); rintro e w3 ⟨rfl, k3⟩)
        | (go_at_call 21; (with_reducible refine (CB _).out.mono ?_); rintro e w3 ⟨rfl, k3⟩)
        | (go_at_call 22; (with_reducible refine (CC _).out.mono ?_); rintro e w3 ⟨rfl, k3⟩)
        | (go_at_call 23; (with_reducible refine (CO _).out.mono ?_); rintro e w3 ⟨rfl, k3⟩)
        | (go_at_call 24; (with_reducible refine (CP _).out.mono ?_); rintro e w3 ⟨rfl, k3⟩)
        | (go_at_call 25; (with_reducible refine (CW _ (‹_ ∧ Below W0.heap.size W0 _›).2).out.mono ?_); rintro e w3 ⟨rfl, rfl⟩)
        | (go_at_call 26; (with_reducible refine (CX _).out.mono ?_); rintro e w3 ⟨rfl, k3⟩))
      go_wp2_with fail
      go_ret
      exact ⟨by simp, bThen hb (‹_ ∧ Below W0.heap.size W0 _›).2⟩
end Go.Proofs.YtljgokdhdbgdbaaDoor
