/-
  WALKS: part, its two closures, and text, small, number, flag: one field of an object.
-/
import Derived.Test.YtkgjgbenfpkekaaPCod
import Derived.Test.YtkgjgbenfpkekaaYByte
import Derived.Test.YtkgjgbenfpkekaaYWrite
import Derived.Laws.EntriesVeiled
import Derived.Deep.RegionWith
namespace Go.Proofs.Ytkgjgbenfpkekaa.PX
open Go.RowKit HL
open IX (ptr El cellsK cellsK_at OwnK RdK Kept)
open YX (numB rdU rdB rdT rdS rdI addW intN natI rest told WAt WPt Wr RAt vS vU vI)
set_option maxRecDepth 100000
set_option linter.unusedVariables false
set_option linter.unusedSimpArgs false

abbrev fn (f : Nat) : Value := .func (.func f) #[] #[]
/-- What tells a field: whether it is not zero, the two closures. -/
inductive FDv (z : Bool) (p1 p2 b0 b1 b2 : Nat) : Ending → Prop where
  | mk' : FDv z p1 p2 b0 b1 b2 (.returned (.agg #[.bool z, .func (.func p1) #[] #[ptr b1, ptr b0], .func (.func p2) #[] #[ptr b2, ptr b0]]))
theorem FDv.mk {z z2 : Bool} {p1 p2 b0 b1 b2 : Nat} (h : z2 = z) : FDv z p1 p2 b0 b1 b2 (.returned (.agg #[.bool z2, .func (.func p1) #[] #[ptr b1, ptr b0], .func (.func p2) #[] #[ptr b2, ptr b0]])) := by subst h; exact .mk'
abbrev pa (b i : Nat) : Value := .pointer (some ⟨b, i, none⟩)
/-- What a call of a writer comes to. -/
def Wrt (w0 : World) (Bw : Nat) (s : Option Bs) (e : Ending) (w' : World) : Prop := e = .returned (.tuple #[]) ∧ WAt w' Bw s ∧ Kept w0 w' (· ≠ Bw)
theorem wrt {w0 : World} {Bw : Nat} {s : Option Bs} {e : Ending} {w' : World} (h : Wr w0 (ptr Bw) s e w') : Wrt w0 Bw s e w' := ⟨h.1, (h.2.2 Bw rfl).1, (h.2.2 Bw rfl).2⟩
theorem wpt {w : World} {Bw : Nat} {s : Option Bs} (h : WAt w Bw s) : WPt w (ptr Bw) s := .inr ⟨Bw, rfl, h⟩
theorem wrt_pre {w0 w1 : World} {Bw : Nat} {s : Option Bs} {e : Ending} {w' : World} (h : Wr w1 (ptr Bw) s e w') (k : Below w0.heap.size w0 w1) : Wrt w0 Bw s e w' := ⟨h.1, (h.2.2 Bw rfl).1, Kept.trans (.of_below k) (h.2.2 Bw rfl).2⟩
theorem flag_put (v : Value) (x : Bool) (w : World) : Calls Try.prog 91 #[v, .bool x] w fun e w' => e = .returned (.tuple #[]) ∧ w = w' := by
  go_enter Try.func91, Try.ntmps91
  try go_wp2
  first | go_end0 | (refine bodyPost_ret (results_none rfl _ _ _) rfl ?_)
  exact ⟨rfl, rfl⟩
theorem flag_get (v : Value) (w : World) : Calls Try.prog 92 #[v] w fun e w' => e = .returned (.bool true) ∧ w = w' := by
  go_enter Try.func92, Try.ntmps92
  go_wp2
  go_ret
  exact ⟨rfl, rfl⟩
set_option maxHeartbeats 2000000 in
theorem put_s (Bw bp bq Bo i : Nat) (x : Bs) (hx : x.length ≤ 900000) (s : Option Bs) (w : World) (h : WAt w Bw s) (c1 : w.cell? ⟨bq, 0, none⟩ = some (fn 41)) (c2 : w.cell? ⟨bp, 0, none⟩ = some (pa Bo i)) (c3 : w.cell? ⟨Bo, i, none⟩ = some (str x)) :
    Calls Try.prog 104 #[ptr Bw, ptr bq, ptr bp] w fun e w' => Wrt w Bw (textW s x) e w' := by
  have D : Hid (Calls Try.prog 41 #[ptr Bw, str x] w.drew fun e w' => Wrt w Bw (textW s x) e w') := Lib.hid ((YX.wText_any (ptr Bw) s x w.drew hx (wpt (h.below (YX.bD1_ w)))).mono (fun e w' q => wrt_pre q (YX.bD1_ w)))
  clear h
  go_enter Try.func104, Try.ntmps104
  go_region_with (go_at_call 41; ((refine D.out.mono ?_); rintro e w1 ⟨rfl, q2, q3⟩; have H1 := Lib.hid (And.intro q2 q3); clear q2 q3))
  all_goals
    first | go_end0 | (refine bodyPost_ret (results_none rfl _ _ _) rfl ?_)
    exact ⟨rfl, H1.out.1, H1.out.2⟩
set_option maxHeartbeats 2000000 in
theorem get_s (Br bp bq Bo i : Nat) (s : Option Bs) (C : Array Value) (w : World) (h : RAt w Br s) (c1 : w.cell? ⟨bq, 0, none⟩ = some (fn 48)) (c2 : w.cell? ⟨bp, 0, none⟩ = some (pa Bo i)) (hC : AtC w Bo C) (hi : i < C.size) (h1 : Br < Bo) (h2 : bp ≠ Br) :
    Calls Try.prog 105 #[ptr Br, ptr bq, ptr bp] w fun e w' => e = .returned (.tuple #[]) ∧ RAt w' Br (rest rdS s) ∧ AtC w' Bo (C.setIfInBounds i (vS (told ([] : Bs) rdS s))) ∧ Kept w w' (fun j => j ≠ Br ∧ j ≠ Bo) := by
  have D : Hid (Calls Try.prog 48 #[ptr Br] w.drew fun e w' => e = .returned (vS (told ([] : Bs) rdS s)) ∧ RAt w' Br (rest rdS s) ∧ Kept w w' (· ≠ Br)) := Lib.hid ((YX.text_any2 Br s w.drew (h.below (YX.bD1_ w))).mono (fun e w' ⟨a, b, c⟩ => ⟨a, b, Kept.trans (.of_below (YX.bD1_ w)) c⟩))
  have HC := Lib.hid hC
  have HP : Hid (∀ W, Kept w W (· ≠ Br) → W.cell? ⟨bp, 0, none⟩ = some (pa Bo i)) := Lib.hid (fun W k => (k.cell (World.block_lt_of_cell? _ _ c2) h2).trans c2)
  have hne : Bo ≠ Br := by omega
  clear h hC
  go_enter Try.func105, Try.ntmps105
  go_region_with (go_at_call 48; ((refine D.out.mono ?_); rintro e w1 ⟨rfl, q2, q3⟩; have cP := HP.out w1 q3; have m1 := HC.out.kept q3 hne; have m1c := m1.c; have m1f := m1.f; have m1l := m1.lt; have H1 := Lib.hid (And.intro q2 q3); clear q2 q3))
  all_goals
    first | go_end0 | (refine bodyPost_ret (results_none rfl _ _ _) rfl ?_)
    exact ⟨rfl, H1.out.1.other (B2 := Bo) ((Kept.refl _ _).set (B := Bo) (fun _ q => q rfl) _) h1, m1.set hi _, ((H1.out.2.weak (fun j q => q.1)).set (B := Bo) (fun _ q => q.2 rfl) _)⟩
set_option maxHeartbeats 2000000 in
theorem part_s (Bo i : Nat) (x : Bs) (w : World) (c3 : w.cell? ⟨Bo, i, none⟩ = some (str x)) :
    Calls Try.prog 87 #[pa Bo i, fn 41, fn 48] w fun e w' => FDv (decide (x ≠ [])) 104 105 w.heap.size (w.heap.size + 1) (w.heap.size + 1 + 1) e ∧
      w'.cell? ⟨w.heap.size, 0, none⟩ = some (pa Bo i) ∧ w'.cell? ⟨w.heap.size + 1, 0, none⟩ = some (fn 41) ∧ w'.cell? ⟨w.heap.size + 1 + 1, 0, none⟩ = some (fn 48) ∧ Below w.heap.size w w' := by
  have hlt : Bo < w.heap.size := World.block_lt_of_cell? _ _ c3
  have c4 : ((((w.alloc (.cells #[pa Bo i] 117)).alloc (.cells #[fn 41] 140)).alloc (.cells #[fn 48] 125)).alloc (.cells #[.bool false, .nilFunc, .nilFunc] 90)).cell? ⟨Bo, i, none⟩ = some (str x) :=
    ((bAl (bAl (bAl (bAl (Below.refl w.heap.size w) _) _) _) _).cell hlt).trans c3
  go_enter Try.func87, Try.ntmps87
  go_wp2
  have hbb : Below w.heap.size w _ := bAl (bAl (bAl (bAl (Below.refl w.heap.size w) (.cells #[pa Bo i] 117)) (.cells #[fn 41] 140)) (.cells #[fn 48] 125)) (.cells #[.bool (!List.isEmpty x), .func (.func 104) #[] #[ptr (w.heap.size + 1), ptr w.heap.size], .func (.func 105) #[] #[ptr (w.heap.size + 1 + 1), ptr w.heap.size]] 90)
  have m0 := (((AtC.new w #[pa Bo i] 117).al (.cells #[fn 41] 140)).al (.cells #[fn 48] 125)).al (.cells #[.bool (!List.isEmpty x), .func (.func 104) #[] #[ptr (w.heap.size + 1), ptr w.heap.size], .func (.func 105) #[] #[ptr (w.heap.size + 1 + 1), ptr w.heap.size]] 90)
  have m1 := ((AtC.newAt (w := w.alloc (.cells #[pa Bo i] 117)) (B := w.heap.size + 1) (C := #[fn 41]) (T := 140) (by simp)).al (.cells #[fn 48] 125)).al (.cells #[.bool (!List.isEmpty x), .func (.func 104) #[] #[ptr (w.heap.size + 1), ptr w.heap.size], .func (.func 105) #[] #[ptr (w.heap.size + 1 + 1), ptr w.heap.size]] 90)
  have m2 := (AtC.newAt (w := (w.alloc (.cells #[pa Bo i] 117)).alloc (.cells #[fn 41] 140)) (B := w.heap.size + 1 + 1) (C := #[fn 48]) (T := 125) (by simp)).al (.cells #[.bool (!List.isEmpty x), .func (.func 104) #[] #[ptr (w.heap.size + 1), ptr w.heap.size], .func (.func 105) #[] #[ptr (w.heap.size + 1 + 1), ptr w.heap.size]] 90)
  refine ret_row (C := #[.bool (!List.isEmpty x), .func (.func 104) #[] #[ptr (w.heap.size + 1), ptr w.heap.size], .func (.func 105) #[] #[ptr (w.heap.size + 1 + 1), ptr w.heap.size]]) (B := w.heap.size + 1 + 1 + 1) rfl rfl rfl (AtC.newAt (by simp)) (by kernel_rfl) (by kernel_rfl) ?_
  exact ⟨(FDv.mk (by cases x <;> rfl)), m0.c 0, m1.c 0, m2.c 0, hbb⟩
set_option maxHeartbeats 2000000 in
theorem text_any (Bo i : Nat) (x : Bs) (w : World) (c3 : w.cell? ⟨Bo, i, none⟩ = some (str x)) :
    Calls Try.prog 70 #[pa Bo i] w fun e w' => ∃ b0 b1 b2, FDv (decide (x ≠ [])) 104 105 b0 b1 b2 e ∧ w.heap.size ≤ b0 ∧ w.heap.size ≤ b1 ∧ w.heap.size ≤ b2 ∧
      w'.cell? ⟨b0, 0, none⟩ = some (pa Bo i) ∧ w'.cell? ⟨b1, 0, none⟩ = some (fn 41) ∧ w'.cell? ⟨b2, 0, none⟩ = some (fn 48) ∧ Below w.heap.size w w' := by
  have hlt : Bo < w.heap.size := World.block_lt_of_cell? _ _ c3
  have hb := bAl (Below.refl w.heap.size w) (.cells #[.bool false, .nilFunc, .nilFunc] 90)
  have mR := AtC.new w #[.bool false, .nilFunc, .nilFunc] 90
  have C := Lib.hid (part_s Bo i x _ ((hb.cell hlt).trans c3))
  have HB := Lib.hid hb
  clear hb
  generalize hZ : (decide (x ≠ [])) = z at *
  clear hZ
  go_enter Try.func70, Try.ntmps70
  go_wp2_with (go_at_call 87; ((refine C.out.mono ?_); rintro e w1 ⟨⟨⟩, d0, d1, d2, k1⟩; have mT := mR.then k1; have mTc := mT.c; have mTf := mT.f; have mTl := mT.lt; have D := Lib.hid (And.intro d0 (And.intro d1 (And.intro d2 k1))); clear d0 d1 d2 k1))
  obtain ⟨d0, d1, d2, k1⟩ := D.out
  simp only [World.size_alloc] at d0 d1 d2
  have nx : ∀ (b : Nat) (u1 u2 u3 : Value), w.heap.size < b → (((w1.setCell ⟨w.heap.size, 0, none⟩ u1).setCell ⟨w.heap.size, 1, none⟩ u2).setCell ⟨w.heap.size, 2, none⟩ u3).cell? ⟨b, 0, none⟩ = w1.cell? ⟨b, 0, none⟩ := fun b u1 u2 u3 hb => by
    have n : ∀ i, (⟨w.heap.size, i, none⟩ : Addr) ≠ ⟨b, 0, none⟩ := fun i x => by injection x with x1; omega
    rw [World.cell?_setCell_other (h := n 2), World.cell?_setCell_other (h := n 1), World.cell?_setCell_other (h := n 0)]
  refine ret_row (C := #[.bool z, .func (.func 104) #[] #[ptr (w.heap.size + 1 + 1), ptr (w.heap.size + 1)], .func (.func 105) #[] #[ptr (w.heap.size + 1 + 1 + 1), ptr (w.heap.size + 1)]]) (B := w.heap.size) rfl rfl rfl (((mT.set (i := 0) (by simp) _).set (i := 1) (by simp) _).set (i := 2) (by simp) _) (by kernel_rfl) (by kernel_rfl) ?_
  exact ⟨_, _, _, .mk', by omega, by omega, by omega, (nx _ _ _ _ (by omega)).trans d0, (nx _ _ _ _ (by omega)).trans d1, (nx _ _ _ _ (by omega)).trans d2, bStore (bStore (bStore (bThen HB.out k1) (Nat.le_refl _) _) (Nat.le_refl _) _) (Nat.le_refl _) _⟩
set_option maxHeartbeats 2000000 in
theorem put_n (Bw bp bq Bo i : Nat) (x : Nat) (hx : x < 256) (s : Option Bs) (w : World) (h : WAt w Bw s) (c1 : w.cell? ⟨bq, 0, none⟩ = some (fn 45)) (c2 : w.cell? ⟨bp, 0, none⟩ = some (pa Bo i)) (c3 : w.cell? ⟨Bo, i, none⟩ = some (.int .u8 (x : Int))) :
    Calls Try.prog 106 #[ptr Bw, ptr bq, ptr bp] w fun e w' => Wrt w Bw (addW s [UInt8.ofNat x]) e w' := by
  have D : Hid (Calls Try.prog 45 #[ptr Bw, .int .u8 (x : Int)] w.drew fun e w' => Wrt w Bw (addW s [UInt8.ofNat x]) e w') := Lib.hid ((YX.wByte_any (ptr Bw) s x hx w.drew (wpt (h.below (YX.bD1_ w)))).mono (fun e w' q => wrt_pre q (YX.bD1_ w)))
  clear h
  go_enter Try.func106, Try.ntmps106
  go_region_with (go_at_call 45; ((refine D.out.mono ?_); rintro e w1 ⟨rfl, q2, q3⟩; have H1 := Lib.hid (And.intro q2 q3); clear q2 q3))
  all_goals
    first | go_end0 | (refine bodyPost_ret (results_none rfl _ _ _) rfl ?_)
    exact ⟨rfl, H1.out.1, H1.out.2⟩
set_option maxHeartbeats 2000000 in
theorem get_n (Br bp bq Bo i : Nat) (s : Option Bs) (C : Array Value) (w : World) (h : RAt w Br s) (c1 : w.cell? ⟨bq, 0, none⟩ = some (fn 51)) (c2 : w.cell? ⟨bp, 0, none⟩ = some (pa Bo i)) (hC : AtC w Bo C) (hi : i < C.size) (h1 : Br < Bo) (h2 : bp ≠ Br) :
    Calls Try.prog 107 #[ptr Br, ptr bq, ptr bp] w fun e w' => e = .returned (.tuple #[]) ∧ RAt w' Br (rest rdB s) ∧ AtC w' Bo (C.setIfInBounds i (.int .u8 ((told (0 : Nat) rdB s : Nat) : Int))) ∧ Kept w w' (fun j => j ≠ Br ∧ j ≠ Bo) := by
  have D : Hid (Calls Try.prog 51 #[ptr Br] w.drew fun e w' => e = .returned (.int .u8 ((told (0 : Nat) rdB s : Nat) : Int)) ∧ RAt w' Br (rest rdB s) ∧ Kept w w' (· ≠ Br)) := Lib.hid ((YX.octet_any2 Br s w.drew (h.below (YX.bD1_ w))).mono (fun e w' ⟨a, b, c⟩ => ⟨a, b, Kept.trans (.of_below (YX.bD1_ w)) c⟩))
  have HC := Lib.hid hC
  have HP : Hid (∀ W, Kept w W (· ≠ Br) → W.cell? ⟨bp, 0, none⟩ = some (pa Bo i)) := Lib.hid (fun W k => (k.cell (World.block_lt_of_cell? _ _ c2) h2).trans c2)
  have hne : Bo ≠ Br := by omega
  clear h hC
  go_enter Try.func107, Try.ntmps107
  go_region_with (go_at_call 51; ((refine D.out.mono ?_); rintro e w1 ⟨rfl, q2, q3⟩; have cP := HP.out w1 q3; have m1 := HC.out.kept q3 hne; have m1c := m1.c; have m1f := m1.f; have m1l := m1.lt; have H1 := Lib.hid (And.intro q2 q3); clear q2 q3))
  all_goals
    first | go_end0 | (refine bodyPost_ret (results_none rfl _ _ _) rfl ?_)
    exact ⟨rfl, H1.out.1.other (B2 := Bo) ((Kept.refl _ _).set (B := Bo) (fun _ q => q rfl) _) h1, m1.set hi _, ((H1.out.2.weak (fun j q => q.1)).set (B := Bo) (fun _ q => q.2 rfl) _)⟩
set_option maxHeartbeats 2000000 in
theorem part_n (Bo i : Nat) (x : Nat) (w : World) (c3 : w.cell? ⟨Bo, i, none⟩ = some (.int .u8 (x : Int))) :
    Calls Try.prog 88 #[pa Bo i, fn 45, fn 51] w fun e w' => FDv (decide (x ≠ 0)) 106 107 w.heap.size (w.heap.size + 1) (w.heap.size + 1 + 1) e ∧
      w'.cell? ⟨w.heap.size, 0, none⟩ = some (pa Bo i) ∧ w'.cell? ⟨w.heap.size + 1, 0, none⟩ = some (fn 45) ∧ w'.cell? ⟨w.heap.size + 1 + 1, 0, none⟩ = some (fn 51) ∧ Below w.heap.size w w' := by
  have hlt : Bo < w.heap.size := World.block_lt_of_cell? _ _ c3
  have c4 : ((((w.alloc (.cells #[pa Bo i] 119)).alloc (.cells #[fn 45] 142)).alloc (.cells #[fn 51] 130)).alloc (.cells #[.bool false, .nilFunc, .nilFunc] 90)).cell? ⟨Bo, i, none⟩ = some (.int .u8 (x : Int)) :=
    ((bAl (bAl (bAl (bAl (Below.refl w.heap.size w) _) _) _) _).cell hlt).trans c3
  go_enter Try.func88, Try.ntmps88
  go_wp2
  have hbb : Below w.heap.size w _ := bAl (bAl (bAl (bAl (Below.refl w.heap.size w) (.cells #[pa Bo i] 119)) (.cells #[fn 45] 142)) (.cells #[fn 51] 130)) (.cells #[.bool ((x : Int) != 0), .func (.func 106) #[] #[ptr (w.heap.size + 1), ptr w.heap.size], .func (.func 107) #[] #[ptr (w.heap.size + 1 + 1), ptr w.heap.size]] 90)
  have m0 := (((AtC.new w #[pa Bo i] 119).al (.cells #[fn 45] 142)).al (.cells #[fn 51] 130)).al (.cells #[.bool ((x : Int) != 0), .func (.func 106) #[] #[ptr (w.heap.size + 1), ptr w.heap.size], .func (.func 107) #[] #[ptr (w.heap.size + 1 + 1), ptr w.heap.size]] 90)
  have m1 := ((AtC.newAt (w := w.alloc (.cells #[pa Bo i] 119)) (B := w.heap.size + 1) (C := #[fn 45]) (T := 142) (by simp)).al (.cells #[fn 51] 130)).al (.cells #[.bool ((x : Int) != 0), .func (.func 106) #[] #[ptr (w.heap.size + 1), ptr w.heap.size], .func (.func 107) #[] #[ptr (w.heap.size + 1 + 1), ptr w.heap.size]] 90)
  have m2 := (AtC.newAt (w := (w.alloc (.cells #[pa Bo i] 119)).alloc (.cells #[fn 45] 142)) (B := w.heap.size + 1 + 1) (C := #[fn 51]) (T := 130) (by simp)).al (.cells #[.bool ((x : Int) != 0), .func (.func 106) #[] #[ptr (w.heap.size + 1), ptr w.heap.size], .func (.func 107) #[] #[ptr (w.heap.size + 1 + 1), ptr w.heap.size]] 90)
  refine ret_row (C := #[.bool ((x : Int) != 0), .func (.func 106) #[] #[ptr (w.heap.size + 1), ptr w.heap.size], .func (.func 107) #[] #[ptr (w.heap.size + 1 + 1), ptr w.heap.size]]) (B := w.heap.size + 1 + 1 + 1) rfl rfl rfl (AtC.newAt (by simp)) (by kernel_rfl) (by kernel_rfl) ?_
  exact ⟨(FDv.mk (by cases x <;> rfl)), m0.c 0, m1.c 0, m2.c 0, hbb⟩
set_option maxHeartbeats 2000000 in
theorem small_any (Bo i : Nat) (x : Nat) (w : World) (c3 : w.cell? ⟨Bo, i, none⟩ = some (.int .u8 (x : Int))) :
    Calls Try.prog 71 #[pa Bo i] w fun e w' => ∃ b0 b1 b2, FDv (decide (x ≠ 0)) 106 107 b0 b1 b2 e ∧ w.heap.size ≤ b0 ∧ w.heap.size ≤ b1 ∧ w.heap.size ≤ b2 ∧
      w'.cell? ⟨b0, 0, none⟩ = some (pa Bo i) ∧ w'.cell? ⟨b1, 0, none⟩ = some (fn 45) ∧ w'.cell? ⟨b2, 0, none⟩ = some (fn 51) ∧ Below w.heap.size w w' := by
  have hlt : Bo < w.heap.size := World.block_lt_of_cell? _ _ c3
  have hb := bAl (Below.refl w.heap.size w) (.cells #[.bool false, .nilFunc, .nilFunc] 90)
  have mR := AtC.new w #[.bool false, .nilFunc, .nilFunc] 90
  have C := Lib.hid (part_n Bo i x _ ((hb.cell hlt).trans c3))
  have HB := Lib.hid hb
  clear hb
  generalize hZ : (decide (x ≠ 0)) = z at *
  clear hZ
  go_enter Try.func71, Try.ntmps71
  go_wp2_with (go_at_call 88; ((refine C.out.mono ?_); rintro e w1 ⟨⟨⟩, d0, d1, d2, k1⟩; have mT := mR.then k1; have mTc := mT.c; have mTf := mT.f; have mTl := mT.lt; have D := Lib.hid (And.intro d0 (And.intro d1 (And.intro d2 k1))); clear d0 d1 d2 k1))
  obtain ⟨d0, d1, d2, k1⟩ := D.out
  simp only [World.size_alloc] at d0 d1 d2
  have nx : ∀ (b : Nat) (u1 u2 u3 : Value), w.heap.size < b → (((w1.setCell ⟨w.heap.size, 0, none⟩ u1).setCell ⟨w.heap.size, 1, none⟩ u2).setCell ⟨w.heap.size, 2, none⟩ u3).cell? ⟨b, 0, none⟩ = w1.cell? ⟨b, 0, none⟩ := fun b u1 u2 u3 hb => by
    have n : ∀ i, (⟨w.heap.size, i, none⟩ : Addr) ≠ ⟨b, 0, none⟩ := fun i x => by injection x with x1; omega
    rw [World.cell?_setCell_other (h := n 2), World.cell?_setCell_other (h := n 1), World.cell?_setCell_other (h := n 0)]
  refine ret_row (C := #[.bool z, .func (.func 106) #[] #[ptr (w.heap.size + 1 + 1), ptr (w.heap.size + 1)], .func (.func 107) #[] #[ptr (w.heap.size + 1 + 1 + 1), ptr (w.heap.size + 1)]]) (B := w.heap.size) rfl rfl rfl (((mT.set (i := 0) (by simp) _).set (i := 1) (by simp) _).set (i := 2) (by simp) _) (by kernel_rfl) (by kernel_rfl) ?_
  exact ⟨_, _, _, .mk', by omega, by omega, by omega, (nx _ _ _ _ (by omega)).trans d0, (nx _ _ _ _ (by omega)).trans d1, (nx _ _ _ _ (by omega)).trans d2, bStore (bStore (bStore (bThen HB.out k1) (Nat.le_refl _) _) (Nat.le_refl _) _) (Nat.le_refl _) _⟩
set_option maxHeartbeats 2000000 in
theorem put_i (Bw bp bq Bo i : Nat) (x : Int) (hx : -9223372036854775808 ≤ x ∧ x < 9223372036854775808) (s : Option Bs) (w : World) (h : WAt w Bw s) (c1 : w.cell? ⟨bq, 0, none⟩ = some (fn 69)) (c2 : w.cell? ⟨bp, 0, none⟩ = some (pa Bo i)) (c3 : w.cell? ⟨Bo, i, none⟩ = some (.int .i64 x)) :
    Calls Try.prog 108 #[ptr Bw, ptr bq, ptr bp] w fun e w' => Wrt w Bw (addW s (numB (intN x))) e w' := by
  have D : Hid (Calls Try.prog 69 #[ptr Bw, .int .i64 x] w.drew fun e w' => Wrt w Bw (addW s (numB (intN x))) e w') := Lib.hid ((YX.wInt_any (ptr Bw) s x hx.1 hx.2 w.drew (wpt (h.below (YX.bD1_ w)))).mono (fun e w' q => wrt_pre q (YX.bD1_ w)))
  clear h
  go_enter Try.func108, Try.ntmps108
  go_region_with (go_at_call 69; ((refine D.out.mono ?_); rintro e w1 ⟨rfl, q2, q3⟩; have H1 := Lib.hid (And.intro q2 q3); clear q2 q3))
  all_goals
    first | go_end0 | (refine bodyPost_ret (results_none rfl _ _ _) rfl ?_)
    exact ⟨rfl, H1.out.1, H1.out.2⟩
set_option maxHeartbeats 2000000 in
theorem get_i (Br bp bq Bo i : Nat) (s : Option Bs) (C : Array Value) (w : World) (h : RAt w Br s) (c1 : w.cell? ⟨bq, 0, none⟩ = some (fn 78)) (c2 : w.cell? ⟨bp, 0, none⟩ = some (pa Bo i)) (hC : AtC w Bo C) (hi : i < C.size) (h1 : Br < Bo) (h2 : bp ≠ Br) :
    Calls Try.prog 109 #[ptr Br, ptr bq, ptr bp] w fun e w' => e = .returned (.tuple #[]) ∧ RAt w' Br (rest rdI s) ∧ AtC w' Bo (C.setIfInBounds i (.int .i64 (told (0 : Int) rdI s))) ∧ Kept w w' (fun j => j ≠ Br ∧ j ≠ Bo) := by
  have D : Hid (Calls Try.prog 78 #[ptr Br] w.drew fun e w' => e = .returned (.int .i64 (told (0 : Int) rdI s)) ∧ RAt w' Br (rest rdI s) ∧ Kept w w' (· ≠ Br)) := Lib.hid ((YX.signed_any2 Br s w.drew (h.below (YX.bD1_ w))).mono (fun e w' ⟨a, b, c⟩ => ⟨a, b, Kept.trans (.of_below (YX.bD1_ w)) c⟩))
  have HC := Lib.hid hC
  have HP : Hid (∀ W, Kept w W (· ≠ Br) → W.cell? ⟨bp, 0, none⟩ = some (pa Bo i)) := Lib.hid (fun W k => (k.cell (World.block_lt_of_cell? _ _ c2) h2).trans c2)
  have hne : Bo ≠ Br := by omega
  clear h hC
  go_enter Try.func109, Try.ntmps109
  go_region_with (go_at_call 78; ((refine D.out.mono ?_); rintro e w1 ⟨rfl, q2, q3⟩; have cP := HP.out w1 q3; have m1 := HC.out.kept q3 hne; have m1c := m1.c; have m1f := m1.f; have m1l := m1.lt; have H1 := Lib.hid (And.intro q2 q3); clear q2 q3))
  all_goals
    first | go_end0 | (refine bodyPost_ret (results_none rfl _ _ _) rfl ?_)
    exact ⟨rfl, H1.out.1.other (B2 := Bo) ((Kept.refl _ _).set (B := Bo) (fun _ q => q rfl) _) h1, m1.set hi _, ((H1.out.2.weak (fun j q => q.1)).set (B := Bo) (fun _ q => q.2 rfl) _)⟩
set_option maxHeartbeats 2000000 in
theorem part_i (Bo i : Nat) (x : Int) (w : World) (c3 : w.cell? ⟨Bo, i, none⟩ = some (.int .i64 x)) :
    Calls Try.prog 89 #[pa Bo i, fn 69, fn 78] w fun e w' => FDv (decide (x ≠ 0)) 108 109 w.heap.size (w.heap.size + 1) (w.heap.size + 1 + 1) e ∧
      w'.cell? ⟨w.heap.size, 0, none⟩ = some (pa Bo i) ∧ w'.cell? ⟨w.heap.size + 1, 0, none⟩ = some (fn 69) ∧ w'.cell? ⟨w.heap.size + 1 + 1, 0, none⟩ = some (fn 78) ∧ Below w.heap.size w w' := by
  have hlt : Bo < w.heap.size := World.block_lt_of_cell? _ _ c3
  have c4 : ((((w.alloc (.cells #[pa Bo i] 121)).alloc (.cells #[fn 69] 144)).alloc (.cells #[fn 78] 145)).alloc (.cells #[.bool false, .nilFunc, .nilFunc] 90)).cell? ⟨Bo, i, none⟩ = some (.int .i64 x) :=
    ((bAl (bAl (bAl (bAl (Below.refl w.heap.size w) _) _) _) _).cell hlt).trans c3
  go_enter Try.func89, Try.ntmps89
  go_wp2
  have hbb : Below w.heap.size w _ := bAl (bAl (bAl (bAl (Below.refl w.heap.size w) (.cells #[pa Bo i] 121)) (.cells #[fn 69] 144)) (.cells #[fn 78] 145)) (.cells #[.bool (x != 0), .func (.func 108) #[] #[ptr (w.heap.size + 1), ptr w.heap.size], .func (.func 109) #[] #[ptr (w.heap.size + 1 + 1), ptr w.heap.size]] 90)
  have m0 := (((AtC.new w #[pa Bo i] 121).al (.cells #[fn 69] 144)).al (.cells #[fn 78] 145)).al (.cells #[.bool (x != 0), .func (.func 108) #[] #[ptr (w.heap.size + 1), ptr w.heap.size], .func (.func 109) #[] #[ptr (w.heap.size + 1 + 1), ptr w.heap.size]] 90)
  have m1 := ((AtC.newAt (w := w.alloc (.cells #[pa Bo i] 121)) (B := w.heap.size + 1) (C := #[fn 69]) (T := 144) (by simp)).al (.cells #[fn 78] 145)).al (.cells #[.bool (x != 0), .func (.func 108) #[] #[ptr (w.heap.size + 1), ptr w.heap.size], .func (.func 109) #[] #[ptr (w.heap.size + 1 + 1), ptr w.heap.size]] 90)
  have m2 := (AtC.newAt (w := (w.alloc (.cells #[pa Bo i] 121)).alloc (.cells #[fn 69] 144)) (B := w.heap.size + 1 + 1) (C := #[fn 78]) (T := 145) (by simp)).al (.cells #[.bool (x != 0), .func (.func 108) #[] #[ptr (w.heap.size + 1), ptr w.heap.size], .func (.func 109) #[] #[ptr (w.heap.size + 1 + 1), ptr w.heap.size]] 90)
  refine ret_row (C := #[.bool (x != 0), .func (.func 108) #[] #[ptr (w.heap.size + 1), ptr w.heap.size], .func (.func 109) #[] #[ptr (w.heap.size + 1 + 1), ptr w.heap.size]]) (B := w.heap.size + 1 + 1 + 1) rfl rfl rfl (AtC.newAt (by simp)) (by kernel_rfl) (by kernel_rfl) ?_
  exact ⟨(FDv.mk (by by_cases h : x = 0 <;> simp [h])), m0.c 0, m1.c 0, m2.c 0, hbb⟩
set_option maxHeartbeats 2000000 in
theorem number_any (Bo i : Nat) (x : Int) (w : World) (c3 : w.cell? ⟨Bo, i, none⟩ = some (.int .i64 x)) :
    Calls Try.prog 72 #[pa Bo i] w fun e w' => ∃ b0 b1 b2, FDv (decide (x ≠ 0)) 108 109 b0 b1 b2 e ∧ w.heap.size ≤ b0 ∧ w.heap.size ≤ b1 ∧ w.heap.size ≤ b2 ∧
      w'.cell? ⟨b0, 0, none⟩ = some (pa Bo i) ∧ w'.cell? ⟨b1, 0, none⟩ = some (fn 69) ∧ w'.cell? ⟨b2, 0, none⟩ = some (fn 78) ∧ Below w.heap.size w w' := by
  have hlt : Bo < w.heap.size := World.block_lt_of_cell? _ _ c3
  have hb := bAl (Below.refl w.heap.size w) (.cells #[.bool false, .nilFunc, .nilFunc] 90)
  have mR := AtC.new w #[.bool false, .nilFunc, .nilFunc] 90
  have C := Lib.hid (part_i Bo i x _ ((hb.cell hlt).trans c3))
  have HB := Lib.hid hb
  clear hb
  generalize hZ : (decide (x ≠ 0)) = z at *
  clear hZ
  go_enter Try.func72, Try.ntmps72
  go_wp2_with (go_at_call 89; ((refine C.out.mono ?_); rintro e w1 ⟨⟨⟩, d0, d1, d2, k1⟩; have mT := mR.then k1; have mTc := mT.c; have mTf := mT.f; have mTl := mT.lt; have D := Lib.hid (And.intro d0 (And.intro d1 (And.intro d2 k1))); clear d0 d1 d2 k1))
  obtain ⟨d0, d1, d2, k1⟩ := D.out
  simp only [World.size_alloc] at d0 d1 d2
  have nx : ∀ (b : Nat) (u1 u2 u3 : Value), w.heap.size < b → (((w1.setCell ⟨w.heap.size, 0, none⟩ u1).setCell ⟨w.heap.size, 1, none⟩ u2).setCell ⟨w.heap.size, 2, none⟩ u3).cell? ⟨b, 0, none⟩ = w1.cell? ⟨b, 0, none⟩ := fun b u1 u2 u3 hb => by
    have n : ∀ i, (⟨w.heap.size, i, none⟩ : Addr) ≠ ⟨b, 0, none⟩ := fun i x => by injection x with x1; omega
    rw [World.cell?_setCell_other (h := n 2), World.cell?_setCell_other (h := n 1), World.cell?_setCell_other (h := n 0)]
  refine ret_row (C := #[.bool z, .func (.func 108) #[] #[ptr (w.heap.size + 1 + 1), ptr (w.heap.size + 1)], .func (.func 109) #[] #[ptr (w.heap.size + 1 + 1 + 1), ptr (w.heap.size + 1)]]) (B := w.heap.size) rfl rfl rfl (((mT.set (i := 0) (by simp) _).set (i := 1) (by simp) _).set (i := 2) (by simp) _) (by kernel_rfl) (by kernel_rfl) ?_
  exact ⟨_, _, _, .mk', by omega, by omega, by omega, (nx _ _ _ _ (by omega)).trans d0, (nx _ _ _ _ (by omega)).trans d1, (nx _ _ _ _ (by omega)).trans d2, bStore (bStore (bStore (bThen HB.out k1) (Nat.le_refl _) _) (Nat.le_refl _) _) (Nat.le_refl _) _⟩
set_option maxHeartbeats 2000000 in
theorem put_b (Bw bp bq Bo i : Nat) (x : Bool)  (s : Option Bs) (w : World) (h : WAt w Bw s) (c1 : w.cell? ⟨bq, 0, none⟩ = some (fn 91)) (c2 : w.cell? ⟨bp, 0, none⟩ = some (pa Bo i)) (c3 : w.cell? ⟨Bo, i, none⟩ = some (.bool x)) :
    Calls Try.prog 110 #[ptr Bw, ptr bq, ptr bp] w fun e w' => Wrt w Bw s e w' := by
  have D : Hid (Calls Try.prog 91 #[ptr Bw, .bool x] w.drew fun e w' => Wrt w Bw s e w') := Lib.hid ((flag_put _ _ _).mono (fun e w' ⟨a, b⟩ => ⟨a, b ▸ h.below (YX.bD1_ w), b ▸ .of_below (YX.bD1_ w)⟩))
  clear h
  go_enter Try.func110, Try.ntmps110
  go_region_with (go_at_call 91; ((refine D.out.mono ?_); rintro e w1 ⟨rfl, q2, q3⟩; have H1 := Lib.hid (And.intro q2 q3); clear q2 q3))
  all_goals
    first | go_end0 | (refine bodyPost_ret (results_none rfl _ _ _) rfl ?_)
    exact ⟨rfl, H1.out.1, H1.out.2⟩
set_option maxHeartbeats 2000000 in
theorem get_b (Br bp bq Bo i : Nat) (s : Option Bs) (C : Array Value) (w : World) (h : RAt w Br s) (c1 : w.cell? ⟨bq, 0, none⟩ = some (fn 92)) (c2 : w.cell? ⟨bp, 0, none⟩ = some (pa Bo i)) (hC : AtC w Bo C) (hi : i < C.size) (h1 : Br < Bo) (h2 : bp ≠ Br) :
    Calls Try.prog 111 #[ptr Br, ptr bq, ptr bp] w fun e w' => e = .returned (.tuple #[]) ∧ RAt w' Br s ∧ AtC w' Bo (C.setIfInBounds i (.bool true)) ∧ Kept w w' (fun j => j ≠ Br ∧ j ≠ Bo) := by
  have D : Hid (Calls Try.prog 92 #[ptr Br] w.drew fun e w' => e = .returned (.bool true) ∧ RAt w' Br s ∧ Kept w w' (· ≠ Br)) := Lib.hid ((flag_get _ _).mono (fun e w' ⟨a, b⟩ => ⟨a, b ▸ h.below (YX.bD1_ w), b ▸ .of_below (YX.bD1_ w)⟩))
  have HC := Lib.hid hC
  have HP : Hid (∀ W, Kept w W (· ≠ Br) → W.cell? ⟨bp, 0, none⟩ = some (pa Bo i)) := Lib.hid (fun W k => (k.cell (World.block_lt_of_cell? _ _ c2) h2).trans c2)
  have hne : Bo ≠ Br := by omega
  clear h hC
  go_enter Try.func111, Try.ntmps111
  go_region_with (go_at_call 92; ((refine D.out.mono ?_); rintro e w1 ⟨rfl, q2, q3⟩; have cP := HP.out w1 q3; have m1 := HC.out.kept q3 hne; have m1c := m1.c; have m1f := m1.f; have m1l := m1.lt; have H1 := Lib.hid (And.intro q2 q3); clear q2 q3))
  all_goals
    first | go_end0 | (refine bodyPost_ret (results_none rfl _ _ _) rfl ?_)
    exact ⟨rfl, H1.out.1.other (B2 := Bo) ((Kept.refl _ _).set (B := Bo) (fun _ q => q rfl) _) h1, m1.set hi _, ((H1.out.2.weak (fun j q => q.1)).set (B := Bo) (fun _ q => q.2 rfl) _)⟩
set_option maxHeartbeats 2000000 in
theorem part_b (Bo i : Nat) (x : Bool) (w : World) (c3 : w.cell? ⟨Bo, i, none⟩ = some (.bool x)) :
    Calls Try.prog 90 #[pa Bo i, fn 91, fn 92] w fun e w' => FDv (x) 110 111 w.heap.size (w.heap.size + 1) (w.heap.size + 1 + 1) e ∧
      w'.cell? ⟨w.heap.size, 0, none⟩ = some (pa Bo i) ∧ w'.cell? ⟨w.heap.size + 1, 0, none⟩ = some (fn 91) ∧ w'.cell? ⟨w.heap.size + 1 + 1, 0, none⟩ = some (fn 92) ∧ Below w.heap.size w w' := by
  have hlt : Bo < w.heap.size := World.block_lt_of_cell? _ _ c3
  have c4 : ((((w.alloc (.cells #[pa Bo i] 123)).alloc (.cells #[fn 91] 147)).alloc (.cells #[fn 92] 127)).alloc (.cells #[.bool false, .nilFunc, .nilFunc] 90)).cell? ⟨Bo, i, none⟩ = some (.bool x) :=
    ((bAl (bAl (bAl (bAl (Below.refl w.heap.size w) _) _) _) _).cell hlt).trans c3
  go_enter Try.func90, Try.ntmps90
  go_wp2
  have hbb : Below w.heap.size w _ := bAl (bAl (bAl (bAl (Below.refl w.heap.size w) (.cells #[pa Bo i] 123)) (.cells #[fn 91] 147)) (.cells #[fn 92] 127)) (.cells #[.bool (x), .func (.func 110) #[] #[ptr (w.heap.size + 1), ptr w.heap.size], .func (.func 111) #[] #[ptr (w.heap.size + 1 + 1), ptr w.heap.size]] 90)
  have m0 := (((AtC.new w #[pa Bo i] 123).al (.cells #[fn 91] 147)).al (.cells #[fn 92] 127)).al (.cells #[.bool (x), .func (.func 110) #[] #[ptr (w.heap.size + 1), ptr w.heap.size], .func (.func 111) #[] #[ptr (w.heap.size + 1 + 1), ptr w.heap.size]] 90)
  have m1 := ((AtC.newAt (w := w.alloc (.cells #[pa Bo i] 123)) (B := w.heap.size + 1) (C := #[fn 91]) (T := 147) (by simp)).al (.cells #[fn 92] 127)).al (.cells #[.bool (x), .func (.func 110) #[] #[ptr (w.heap.size + 1), ptr w.heap.size], .func (.func 111) #[] #[ptr (w.heap.size + 1 + 1), ptr w.heap.size]] 90)
  have m2 := (AtC.newAt (w := (w.alloc (.cells #[pa Bo i] 123)).alloc (.cells #[fn 91] 147)) (B := w.heap.size + 1 + 1) (C := #[fn 92]) (T := 127) (by simp)).al (.cells #[.bool (x), .func (.func 110) #[] #[ptr (w.heap.size + 1), ptr w.heap.size], .func (.func 111) #[] #[ptr (w.heap.size + 1 + 1), ptr w.heap.size]] 90)
  refine ret_row (C := #[.bool (x), .func (.func 110) #[] #[ptr (w.heap.size + 1), ptr w.heap.size], .func (.func 111) #[] #[ptr (w.heap.size + 1 + 1), ptr w.heap.size]]) (B := w.heap.size + 1 + 1 + 1) rfl rfl rfl (AtC.newAt (by simp)) (by kernel_rfl) (by kernel_rfl) ?_
  exact ⟨(FDv.mk (rfl)), m0.c 0, m1.c 0, m2.c 0, hbb⟩
set_option maxHeartbeats 2000000 in
theorem flag_any (Bo i : Nat) (x : Bool) (w : World) (c3 : w.cell? ⟨Bo, i, none⟩ = some (.bool x)) :
    Calls Try.prog 73 #[pa Bo i] w fun e w' => ∃ b0 b1 b2, FDv (x) 110 111 b0 b1 b2 e ∧ w.heap.size ≤ b0 ∧ w.heap.size ≤ b1 ∧ w.heap.size ≤ b2 ∧
      w'.cell? ⟨b0, 0, none⟩ = some (pa Bo i) ∧ w'.cell? ⟨b1, 0, none⟩ = some (fn 91) ∧ w'.cell? ⟨b2, 0, none⟩ = some (fn 92) ∧ Below w.heap.size w w' := by
  have hlt : Bo < w.heap.size := World.block_lt_of_cell? _ _ c3
  have hb := bAl (Below.refl w.heap.size w) (.cells #[.bool false, .nilFunc, .nilFunc] 90)
  have mR := AtC.new w #[.bool false, .nilFunc, .nilFunc] 90
  have C := Lib.hid (part_b Bo i x _ ((hb.cell hlt).trans c3))
  have HB := Lib.hid hb
  clear hb
  generalize hZ : (x) = z at *
  clear hZ
  go_enter Try.func73, Try.ntmps73
  go_wp2_with (go_at_call 90; ((refine C.out.mono ?_); rintro e w1 ⟨⟨⟩, d0, d1, d2, k1⟩; have mT := mR.then k1; have mTc := mT.c; have mTf := mT.f; have mTl := mT.lt; have D := Lib.hid (And.intro d0 (And.intro d1 (And.intro d2 k1))); clear d0 d1 d2 k1))
  obtain ⟨d0, d1, d2, k1⟩ := D.out
  simp only [World.size_alloc] at d0 d1 d2
  have nx : ∀ (b : Nat) (u1 u2 u3 : Value), w.heap.size < b → (((w1.setCell ⟨w.heap.size, 0, none⟩ u1).setCell ⟨w.heap.size, 1, none⟩ u2).setCell ⟨w.heap.size, 2, none⟩ u3).cell? ⟨b, 0, none⟩ = w1.cell? ⟨b, 0, none⟩ := fun b u1 u2 u3 hb => by
    have n : ∀ i, (⟨w.heap.size, i, none⟩ : Addr) ≠ ⟨b, 0, none⟩ := fun i x => by injection x with x1; omega
    rw [World.cell?_setCell_other (h := n 2), World.cell?_setCell_other (h := n 1), World.cell?_setCell_other (h := n 0)]
  refine ret_row (C := #[.bool z, .func (.func 110) #[] #[ptr (w.heap.size + 1 + 1), ptr (w.heap.size + 1)], .func (.func 111) #[] #[ptr (w.heap.size + 1 + 1 + 1), ptr (w.heap.size + 1)]]) (B := w.heap.size) rfl rfl rfl (((mT.set (i := 0) (by simp) _).set (i := 1) (by simp) _).set (i := 2) (by simp) _) (by kernel_rfl) (by kernel_rfl) ?_
  exact ⟨_, _, _, .mk', by omega, by omega, by omega, (nx _ _ _ _ (by omega)).trans d0, (nx _ _ _ _ (by omega)).trans d1, (nx _ _ _ _ (by omega)).trans d2, bStore (bStore (bStore (bThen HB.out k1) (Nat.le_refl _) _) (Nat.le_refl _) _) (Nat.le_refl _) _⟩
end Go.Proofs.Ytkgjgbenfpkekaa.PX
