/-
  WALK: the law ObjectBoth.
-/
import Derived.Test.YtljgokdhdbgdbaaDoorOAwake
import Derived.Test.YtljgokdhdbgdbaaDoorOBothMath
import Derived.Test.YtljgokdhdbgdbaaDoorOLong
import Derived.Deep.RegionHeld3
namespace Go.Proofs.YtljgokdhdbgdbaaDoor
open Go.RowKit
set_option maxRecDepth 100000
set_option linter.unusedVariables false

set_option maxHeartbeats 16000000 in
theorem both_walk (o : Ob) (w : World) (h : Meets o w) (ht : Tabs w) : Calls Tryd.prog 8 #[ob o] w fun e w' => e = .returned (.bool true) ∧ Below w.heap.size w w' := by
  have hb : Below w.heap.size w w := Below.refl _ _
  have AW := Lib.hid (fun W (k : Below w.heap.size w W) => awake_any (ht.then k))
  have L1 := fun W => Lib.hid (long_any o W)
  have A1 := Lib.hid (fun W (k : Below w.heap.size w W) => objMay_any (h.then k))
  have A3 := Lib.hid (fun W (k : Below w.heap.size w W) => objMayDesc_any (h.then k))
  have A5 := Lib.hid (fun W (k : Below w.heap.size w W) => objMayState_any (h.then k))
  have B3 := Lib.hid (fun W (k : Below w.heap.size w W) => show Calls Tryd.prog 13 #[ob (stateOf o zeroOb)] W fun e w' => e = .returned (.int .i64 (faultP (stateOf o zeroOb) true)) ∧ Below W.heap.size W w' from objMayDesc_any (h.bare.then k))
  have B5 := Lib.hid (fun W (k : Below w.heap.size w W) => show Calls Tryd.prog 15 #[ob (descOf o zeroOb)] W fun e w' => e = .returned (.int .i64 (faultP (descOf o zeroOb) false)) ∧ Below W.heap.size W w' from objMayState_any (h.only.then k))
  have CB := fun W => Lib.hid (bare_any o W)
  have CO := fun W => Lib.hid (only_any o W)
  have F1 := Lib.hid (@both_fine o)
  have F2 := Lib.hid (@both_only o)
  generalize longB o = l1 at *
  generalize faultP o true = r1 at *
  generalize faultP (stateOf o zeroOb) true = r2 at *
  generalize faultP (descOf o zeroOb) false = r3 at *
  clear h ht
  cases l1 with
  | true =>
    clear A1 A3 A5 B3 B5 F1 F2
    go_enter Tryd.func8, Tryd.ntmps8
    go_wp2_with fail
    go_at_call 31
    refine (AW.out _ (bAl hb _)).mono ?_
    rintro e w1 ⟨rfl, k1⟩
    replace hb := bThen (bAl hb _) k1
    have mO := (AtC.new _ _ _).then k1
    have oc := mO.c
    go_wp2_with (go_at_call 10; ((with_reducible refine (L1 _).out.mono ?_); rintro e w2 ⟨rfl, k2⟩; replace hb := bThen hb k2))
    go_ret
    exact ⟨by simp, hb⟩
  | false =>
    go_enter Tryd.func8, Tryd.ntmps8
    go_wp2_with fail
    go_at_call 31
    refine (AW.out _ (bAl hb _)).mono ?_
    rintro e w1 ⟨rfl, k1⟩
    replace hb := bThen (bAl hb _) k1
    have mO := (AtC.new _ _ _).then k1
    have oc := mO.c
    go_wp2_with fail
    go_at_call 10
    with_reducible refine (L1 _).out.mono ?_
    rintro e W0 ⟨rfl, k2⟩
    replace hb := bThen hb k2
    replace mO := mO.then k2
    have hP : ∀ w', Below W0.heap.size W0 w' → (∀ i, w'.cell? ⟨w.heap.size, i, none⟩ = (obCells o)[i]?) := fun w' k => (mO.then k).c
    clear k1 k2 L1 AW oc
    go_wp2_with fail
    go_region_held3 (fun w' => (∀ i, w'.cell? ⟨w.heap.size, i, none⟩ = (obCells o)[i]?) ∧ Below W0.heap.size W0 w')
      (first | exact ⟨hP _ (Below.refl _ _).drew, (Below.refl _ _).drew⟩ | exact ⟨hP _ (keepD (by assumption) k3), keepD (by assumption) k3⟩)
      (first
      | (go_at_call 11; (with_reducible refine (A1.out _ (bThen hb (‹_ ∧ Below W0.heap.size W0 _›).2)).mono ?_); rintro e w3 ⟨rfl, k3⟩)
      | (go_at_call 13; (with_reducible refine (A3.out _ (bThen hb (‹_ ∧ Below W0.heap.size W0 _›).2)).mono ?_); rintro e w3 ⟨rfl, k3⟩)
      | (go_at_call 15; (with_reducible refine (A5.out _ (bThen hb (‹_ ∧ Below W0.heap.size W0 _›).2)).mono ?_); rintro e w3 ⟨rfl, k3⟩))
    have hQ := ‹_ ∧ Below W0.heap.size W0 _›
    replace mO := mO.then hQ.2
    replace hb := bThen hb hQ.2
    have oc := mO.c
    clear hQ hP A1 A3 A5
    have f1 := F1.out
    have f2 := F2.out
    clear F1 F2
    by_cases h2 : r2 = 0
    · by_cases h3 : r3 = 0
      · replace f2 := f2 h2 h3
        clear f1
        subst h2 h3
        obtain ⟨xh, xk, xp, xt, xr, xlo, xhi, xd, xon, xhas, xv, xlw, xhg, xa⟩ := o
        dsimp only at *
        by_cases hh : xhas = true
        · by_cases hx : xv < xlo
          · rw [if_pos ⟨hh, .inl hx⟩] at f2
            subst f2 hh
            go_wp2_with (first
              | (go_at_call 21; ((with_reducible refine (CB _).out.mono ?_); rintro e w5 ⟨rfl, k5⟩; replace hb := bThen hb k5; replace mO := mO.then k5; have oc := mO.c))
              | (go_at_call 23; ((with_reducible refine (CO _).out.mono ?_); rintro e w5 ⟨rfl, k5⟩; replace hb := bThen hb k5; replace mO := mO.then k5; have oc := mO.c))
              | (go_at_call 13; ((with_reducible refine (B3.out _ hb).mono ?_); rintro e w5 ⟨rfl, k5⟩; replace hb := bThen hb k5; replace mO := mO.then k5; have oc := mO.c))
              | (go_at_call 15; ((with_reducible refine (B5.out _ hb).mono ?_); rintro e w5 ⟨rfl, k5⟩; replace hb := bThen hb k5)))
            go_ret
            exact ⟨by simp [*], hb⟩
          · by_cases hy : xhi < xv
            · rw [if_pos ⟨hh, .inr hy⟩] at f2
              subst f2 hh
              go_wp2_with (first
                | (go_at_call 21; ((with_reducible refine (CB _).out.mono ?_); rintro e w5 ⟨rfl, k5⟩; replace hb := bThen hb k5; replace mO := mO.then k5; have oc := mO.c))
                | (go_at_call 23; ((with_reducible refine (CO _).out.mono ?_); rintro e w5 ⟨rfl, k5⟩; replace hb := bThen hb k5; replace mO := mO.then k5; have oc := mO.c))
                | (go_at_call 13; ((with_reducible refine (B3.out _ hb).mono ?_); rintro e w5 ⟨rfl, k5⟩; replace hb := bThen hb k5; replace mO := mO.then k5; have oc := mO.c))
                | (go_at_call 15; ((with_reducible refine (B5.out _ hb).mono ?_); rintro e w5 ⟨rfl, k5⟩; replace hb := bThen hb k5)))
              go_ret
              exact ⟨by simp [*], hb⟩
            · rw [if_neg (fun q => q.2.elim hx hy)] at f2
              subst f2 hh
              go_wp2_with (first
                | (go_at_call 21; ((with_reducible refine (CB _).out.mono ?_); rintro e w5 ⟨rfl, k5⟩; replace hb := bThen hb k5; replace mO := mO.then k5; have oc := mO.c))
                | (go_at_call 23; ((with_reducible refine (CO _).out.mono ?_); rintro e w5 ⟨rfl, k5⟩; replace hb := bThen hb k5; replace mO := mO.then k5; have oc := mO.c))
                | (go_at_call 13; ((with_reducible refine (B3.out _ hb).mono ?_); rintro e w5 ⟨rfl, k5⟩; replace hb := bThen hb k5; replace mO := mO.then k5; have oc := mO.c))
                | (go_at_call 15; ((with_reducible refine (B5.out _ hb).mono ?_); rintro e w5 ⟨rfl, k5⟩; replace hb := bThen hb k5)))
              go_ret
              exact ⟨by simp [*], hb⟩
        · rw [if_neg (fun q => hh q.1)] at f2
          subst f2
          have hh : xhas = false := by simpa using hh
          subst hh
          go_wp2_with (first
            | (go_at_call 21; ((with_reducible refine (CB _).out.mono ?_); rintro e w5 ⟨rfl, k5⟩; replace hb := bThen hb k5; replace mO := mO.then k5; have oc := mO.c))
            | (go_at_call 23; ((with_reducible refine (CO _).out.mono ?_); rintro e w5 ⟨rfl, k5⟩; replace hb := bThen hb k5; replace mO := mO.then k5; have oc := mO.c))
            | (go_at_call 13; ((with_reducible refine (B3.out _ hb).mono ?_); rintro e w5 ⟨rfl, k5⟩; replace hb := bThen hb k5; replace mO := mO.then k5; have oc := mO.c))
            | (go_at_call 15; ((with_reducible refine (B5.out _ hb).mono ?_); rintro e w5 ⟨rfl, k5⟩; replace hb := bThen hb k5)))
          go_ret
          exact ⟨by simp [*], hb⟩
      · have h1 : ¬ r1 = 0 := fun q => h3 (f1 q).2
        clear f1 f2
        go_wp2_with fail
        go_ret
        exact ⟨by simp [*], hb⟩
    · have h1 : ¬ r1 = 0 := fun q => h2 (f1 q).1
      clear f1 f2
      go_wp2_with fail
      go_ret
      exact ⟨by simp [*], hb⟩
end Go.Proofs.YtljgokdhdbgdbaaDoor
