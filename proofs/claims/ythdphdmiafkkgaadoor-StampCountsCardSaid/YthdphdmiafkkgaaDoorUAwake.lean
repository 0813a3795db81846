/-
  WALK: the chapter's example (awake).
-/
import Derived.Test.YthdphdmiafkkgaaDoorUParse
import Derived.Test.YthdphdmiafkkgaaDoorUAll
namespace Go.Proofs.YthdphdmiafkkgaaDoor.UX
open Go.RowKit FixMath
open IX (RdK OwnK)
open YX (u8K rdY)
set_option maxRecDepth 100000
set_option linter.unusedVariables false
set_option linter.unusedSimpArgs false

structure Env (w : World) : Prop where
  adds : Adds w
  txt : EnvT w
theorem Env.then {w w' : World} (h : Env w) (k : Below w.heap.size w w') : Env w' := ⟨h.adds.then k, h.txt.then k⟩
theorem ex_all : alV 0 0 (kds [1, 3, 4, 1]) = .tuple #[sp 3 3, .int .i64 4, .int .i64 0] := by
  have e : allS 0 0 (kds [1, 3, 4, 1]) = (3, 3, 4, 0) := by decide +kernel
  unfold alV aD aS aN aE
  rw [e]; rfl
theorem ex_next : nxV 0 0 3 = .tuple #[sp 0 0, .int .i64 2] := nx_no (by decide)
theorem ex_nt1 : nt 1 = [49] := by rw [nt_one (by omega)]; rfl
theorem ex_nt2 : nt 2 = [50] := by rw [nt_one (by omega)]; rfl
theorem ex_text : txV 1 2 = .tuple #[str [49, 46, 50], .int .i64 0] := by
  have := txV_y (d := 1) (s := 2) (by decide)
  rw [show txS 1 2 = [49, 46, 50] by unfold txS; rw [ex_nt1, ex_nt2]; rfl] at this
  exact this
theorem ex_parse : paV [48, 49, 46, 50] = .tuple #[sp 0 0, .int .i64 120] := by
  refine paV_no ?_
  rintro ⟨d, s, h⟩
  have e := (tx_cut (l := [48, 49, 46, 50]) (a := [48, 49]) (b := [50]) rfl (by decide) h).1
  have v := nt_val d
  rw [← e, show val [48, 49] = 1 by decide] at v
  rw [← v, ex_nt1] at e
  cases e
theorem ex_row (w : World) : RdK u8K (w.alloc (.cells #[.int .u8 1, .int .u8 3, .int .u8 4, .int .u8 1] 5)) (w.alloc (.cells #[.int .u8 1, .int .u8 3, .int .u8 4, .int .u8 1] 5)).heap.size (some ⟨w.heap.size, 0, none⟩) [1, 3, 4, 1] := by
  refine .inr ⟨w.heap.size, 0, rfl, by simp, fun m u hu => ?_⟩
  rw [World.cell?_alloc_at _ _ _ _ rfl, Nat.zero_add, ← Array.getElem?_toList]
  exact hu
set_option maxHeartbeats 4000000 in
theorem awake15_any (w : World) (hE : Env w) : Calls Tryd.prog 17 #[] w fun e w' => e = .returned (.bool true) ∧ Below w.heap.size w w' := by
  have hb : Below w.heap.size w w := Below.refl _ _
  have C1 := Lib.hid (stAll_any 0 0 (some ⟨w.heap.size, 0, none⟩) [1, 3, 4, 1] 4 (w.alloc (.cells #[.int .u8 1, .int .u8 3, .int .u8 4, .int .u8 1] 5)) (hE.then (bAl hb _)).adds (ex_row w) (by simp))
  rw [ex_all] at C1
  have C2 := Lib.hid (fun (W : World) (k : Below w.heap.size w W) => show Calls Tryd.prog 11 #[sp 0 0, .int .u8 3] W _ from stNext_any 0 0 3 W (hE.then k).adds)
  rw [ex_next] at C2
  have C3 := Lib.hid (fun (W : World) (k : Below w.heap.size w W) => stText_any 1 2 W (hE.then k).txt.pow)
  rw [ex_text] at C3
  have C4 := Lib.hid (fun (W : World) (k : Below w.heap.size w W) => stParse_any [48, 49, 46, 50] W (by decide) (hE.then k).txt)
  rw [ex_parse] at C4
  have C5 := Lib.hid (fun (W : World) => stOf_any 1 2 2 1 W)
  rw [show ofS 1 2 2 1 = 3 by decide] at C5
  have C6 := Lib.hid (fun (W : World) => stMay_any 1 0 W)
  rw [show mayS 1 0 = false by decide] at C6
  have hQ := fun W => (run_eqSt W 3 3 3 3).trans (by rw [show eqS 3 3 3 3 = true by decide])
  clear hE
  go_enter Tryd.func17, Tryd.ntmps17
  go_wp2_with (first
    | (go_at_call 9; ((refine C1.out.mono ?_); rintro e w1 ⟨rfl, k1⟩; replace hb := bAl (bThen (bAl hb _) k1) (.cells #[.int .i64 3, .int .i64 3] 23); have x1 := At2.new w1 3 3 23))
    | (go_at_call 11; ((refine (C2.out _ hb).mono ?_); rintro e w2 ⟨rfl, k2⟩; replace x1 := (x1.then k2).al (.cells #[.int .i64 0, .int .i64 0] 23); replace hb := bAl (bThen hb k2) (.cells #[.int .i64 0, .int .i64 0] 23)))
    | (go_at_call 13; ((refine (C3.out _ hb).mono ?_); rintro e w3 ⟨rfl, k3⟩; replace x1 := x1.then k3; replace hb := bThen hb k3))
    | (go_at_call 15; ((refine (C4.out _ hb).mono ?_); rintro e w4 ⟨rfl, k4⟩; replace x1 := (x1.then k4).al (.cells #[.int .i64 0, .int .i64 0] 23); replace hb := bAl (bThen hb k4) (.cells #[.int .i64 0, .int .i64 0] 23); have x10 := x1.c0; have x11 := x1.c1; have x1l := x1.lt))
    | (go_at_call 18; ((refine (C5.out _).mono ?_); rintro e w5 ⟨rfl, k5⟩; replace hb := bThen hb k5))
    | (go_at_call 19; ((refine (C6.out _).mono ?_); rintro e w6 ⟨rfl, k6⟩; replace hb := bThen hb k6)))
  go_ret
  exact ⟨rfl, hb⟩
end Go.Proofs.YthdphdmiafkkgaaDoor.UX
