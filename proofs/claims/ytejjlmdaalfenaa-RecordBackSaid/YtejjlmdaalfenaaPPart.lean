/-
  WALKS: part, its two closures, and text, small, number, flag: one field of an object.
-/
import Derived.Test.YtejjlmdaalfenaaPCod
import Derived.Test.YtejjlmdaalfenaaYByte
import Derived.Test.YtejjlmdaalfenaaYWrite
import Derived.Laws.EntriesVeiled
import Derived.Deep.RegionWith
namespace Go.Proofs.Ytejjlmdaalfenaa.PX
open Go.RowKit HL
open IX (ptr El cellsK cellsK_at OwnK RdK Kept)
open YX (numB rdU rdB rdT rdS rdI addW intN natI rest told WAt WPt Wr RAt vS vU vI)
set_option maxRecDepth 100000
set_option linter.unusedVariables false
set_option linter.unusedSimpArgs false

abbrev fn (f : Nat) : Value := .func (.func f) #[] #[]
/-- What tells a field: whether it is not zero, the two closures. -/
inductive FDv (z : Bool) (p1 p2 b0 b1 b2 : Nat) : Ending → Prop where
  | mk' : FDv z p1 p2 b0 b1 b2 (.returned (.agg #[.bool z, .func (.func p1) #[] #[ptr b1, ptr b0], .func (.func p2) #[] #[ptr b2, ptr b0]]))
theorem FDv.mk {z z2 : Bool} {p1 p2 b0 b1 b2 : Nat} (h : z2 = z) : FDv z p1 p2 b0 b1 b2 (.returned (.agg #[.bool z2, .func (.func p1) #[] #[ptr b1, ptr b0], .func (.func p2) #[] #[ptr b2, ptr b0]])) := by subst h; exact .mk'
abbrev pa (b i : Nat) : Value := .pointer (some ⟨b, i, none⟩)
/-- What a call of a writer comes to. -/
def Wrt (w0 : World) (Bw : Nat) (s : Option Bs) (e : Ending) (w' : World) : Prop := e = .returned (.tuple #[]) ∧ WAt w' Bw s ∧ Kept w0 w' (· ≠ Bw)
theorem wrt {w0 : World} {Bw : Nat} {s : Option Bs} {e : Ending} {w' : World} (h : Wr w0 (ptr Bw) s e w') : Wrt w0 Bw s e w' := ⟨h.1, (h.2.2 Bw rfl).1, (h.2.2 Bw rfl).2⟩
theorem wpt {w : World} {Bw : Nat} {s : Option Bs} (h : WAt w Bw s) : WPt w (ptr Bw) s := .inr ⟨Bw, rfl, h⟩
theorem wrt_pre {w0 w1 : World} {Bw : Nat} {s : Option Bs} {e : Ending} {w' : World} (h : Wr w1 (ptr Bw) s e w') (k : Below w0.heap.size w0 w1) : Wrt w0 Bw s e w' := ⟨h.1, (h.2.2 Bw rfl).1, Kept.trans (.of_below k) (h.2.2 Bw rfl).2⟩
theorem flag_put (v : Value) (x : Bool) (w : World) : Calls Try.prog 100 #[v, .bool x] w fun e w' => e = .returned (.tuple #[]) ∧ w = w' := by
  go_enter Try.func100, Try.ntmps100
  try go_wp2
  first | go_end0 | (refine bodyPost_ret (results_none rfl _ _ _) rfl ?_)
  exact ⟨rfl, rfl⟩
theorem flag_get (v : Value) (w : World) : Calls Try.prog 101 #[v] w fun e w' => e = .returned (.bool true) ∧ w = w' := by
  go_enter Try.func101, Try.ntmps101
  go_wp2
  go_ret
  exact ⟨rfl, rfl⟩
set_option maxHeartbeats 2000000 in
theorem put_s (Bw bp bq Bo i : Nat) (x : Bs) (hx : x.length ≤ 900000) (s : Option Bs) (w : World) (h : WAt w Bw s) (c1 : w.cell? ⟨bq, 0, none⟩ = some (fn 61)) (c2 : w.cell? ⟨bp, 0, none⟩ = some (pa Bo i)) (c3 : w.cell? ⟨Bo, i, none⟩ = some (str x)) :
    Calls Try.prog 105 #[ptr Bw, ptr bq, ptr bp] w fun e w' => Wrt w Bw (textW s x) e w' := by
  have D : Hid (Calls Try.prog 61 #[ptr Bw, str x] w.drew fun e w' => Wrt w Bw (textW s x) e w') := Lib.hid ((YX.wText_any (ptr Bw) s x w.drew hx (wpt (h.below (YX.bD1_ w)))).mono (fun e w' q => wrt_pre q (YX.bD1_ w)))
  clear h
  go_enter Try.func105, Try.ntmps105
  go_region_with (go_at_call 61; ((refine D.out.mono ?_); rintro e w1 ⟨rfl, q2, q3⟩; have H1 := Lib.hid (And.intro q2 q3); clear q2 q3))
  all_goals
    first | go_end0 | (refine bodyPost_ret (results_none rfl _ _ _) rfl ?_)
    exact ⟨rfl, H1.out.1, H1.out.2⟩
set_option maxHeartbeats 2000000 in
theorem get_s (Br bp bq Bo i : Nat) (s : Option Bs) (C : Array Value) (w : World) (h : RAt w Br s) (c1 : w.cell? ⟨bq, 0, none⟩ = some (fn 48)) (c2 : w.cell? ⟨bp, 0, none⟩ = some (pa Bo i)) (hC : AtC w Bo C) (hi : i < C.size) (h1 : Br < Bo) (h2 : bp ≠ Br) :
    Calls Try.prog 106 #[ptr Br, ptr bq, ptr bp] w fun e w' => e = .returned (.tuple #[]) ∧ RAt w' Br (rest rdS s) ∧ AtC w' Bo (C.setIfInBounds i (vS (told ([] : Bs) rdS s))) ∧ Kept w w' (fun j => j ≠ Br ∧ j ≠ Bo) := by
  have D : Hid (Calls Try.prog 48 #[ptr Br] w.drew fun e w' => e = .returned (vS (told ([] : Bs) rdS s)) ∧ RAt w' Br (rest rdS s) ∧ Kept w w' (· ≠ Br)) := Lib.hid ((YX.text_any2 Br s w.drew (h.below (YX.bD1_ w))).mono (fun e w' ⟨a, b, c⟩ => ⟨a, b, Kept.trans (.of_below (YX.bD1_ w)) c⟩))
  have HC := Lib.hid hC
  have HP : Hid (∀ W, Kept w W (· ≠ Br) → W.cell? ⟨bp, 0, none⟩ = some (pa Bo i)) := Lib.hid (fun W k => (k.cell (World.block_lt_of_cell? _ _ c2) h2).trans c2)
  have hne : Bo ≠ Br := by omega
  clear h hC
  go_enter Try.func106, Try.ntmps106
  go_region_with (go_at_call 48; ((refine D.out.mono ?_); rintro e w1 ⟨rfl, q2, q3⟩; have cP := HP.out w1 q3; have m1 := HC.out.kept q3 hne; have m1c := m1.c; have m1f := m1.f; have m1l := m1.lt; have H1 := Lib.hid (And.intro q2 q3); clear q2 q3))
  all_goals
    first | go_end0 | (refine bodyPost_ret (results_none rfl _ _ _) rfl ?_)
    exact ⟨rfl, H1.out.1.other (B2 := Bo) ((Kept.refl _ _).set (B := Bo) (fun _ q => q rfl) _) h1, m1.set hi _, ((H1.out.2.weak (fun j q => q.1)).set (B := Bo) (fun _ q => q.2 rfl) _)⟩
set_option maxHeartbeats 2000000 in
theorem part_s (Bo i : Nat) (x : Bs) (w : World) (c3 : w.cell? ⟨Bo, i, none⟩ = some (str x)) :
    Calls Try.prog 96 #[pa Bo i, fn 61, fn 48] w fun e w' => FDv (decide (x ≠ [])) 105 106 w.heap.size (w.heap.size + 1) (w.heap.size + 1 + 1) e ∧
      w'.cell? ⟨w.heap.size, 0, none⟩ = some (pa Bo i) ∧ w'.cell? ⟨w.heap.size + 1, 0, none⟩ = some (fn 61) ∧ w'.cell? ⟨w.heap.size + 1 + 1, 0, none⟩ = some (fn 48) ∧ Below w.heap.size w w' := by
  have hlt : Bo < w.heap.size := World.block_lt_of_cell? _ _ c3
  have c4 : ((((w.alloc (.cells #[pa Bo i] 123)).alloc (.cells #[fn 61] 137)).alloc (.cells #[fn 48] 119)).alloc (.cells #[.bool false, .nilFunc, .nilFunc] 100)).cell? ⟨Bo, i, none⟩ = some (str x) :=
    ((bAl (bAl (bAl (bAl (Below.refl w.heap.size w) _) _) _) _).cell hlt).trans c3
  go_enter Try.func96, Try.ntmps96
  go_wp2
  have hbb : Below w.heap.size w _ := bAl (bAl (bAl (bAl (Below.refl w.heap.size w) (.cells #[pa Bo i] 123)) (.cells #[fn 61] 137)) (.cells #[fn 48] 119)) (.cells #[.bool (!List.isEmpty x), .func (.func 105) #[] #[ptr (w.heap.size + 1), ptr w.heap.size], .func (.func 106) #[] #[ptr (w.heap.size + 1 + 1), ptr w.heap.size]] 100)
  have m0 := (((AtC.new w #[pa Bo i] 123).al (.cells #[fn 61] 137)).al (.cells #[fn 48] 119)).al (.cells #[.bool (!List.isEmpty x), .func (.func 105) #[] #[ptr (w.heap.size + 1), ptr w.heap.size], .func (.func 106) #[] #[ptr (w.heap.size + 1 + 1), ptr w.heap.size]] 100)
  have m1 := ((AtC.newAt (w := w.alloc (.cells #[pa Bo i] 123)) (B := w.heap.size + 1) (C := #[fn 61]) (T := 137) (by simp)).al (.cells #[fn 48] 119)).al (.cells #[.bool (!List.isEmpty x), .func (.func 105) #[] #[ptr (w.heap.size + 1), ptr w.heap.size], .func (.func 106) #[] #[ptr (w.heap.size + 1 + 1), ptr w.heap.size]] 100)
  have m2 := (AtC.newAt (w := (w.alloc (.cells #[pa Bo i] 123)).alloc (.cells #[fn 61] 137)) (B := w.heap.size + 1 + 1) (C := #[fn 48]) (T := 119) (by simp)).al (.cells #[.bool (!List.isEmpty x), .func (.func 105) #[] #[ptr (w.heap.size + 1), ptr w.heap.size], .func (.func 106) #[] #[ptr (w.heap.size + 1 + 1), ptr w.heap.size]] 100)
  refine ret_row (C := #[.bool (!List.isEmpty x), .func (.func 105) #[] #[ptr (w.heap.size + 1), ptr w.heap.size], .func (.func 106) #[] #[ptr (w.heap.size + 1 + 1), ptr w.heap.size]]) (B := w.heap.size + 1 + 1 + 1) rfl rfl rfl (AtC.newAt (by simp)) (by kernel_rfl) (by kernel_rfl) ?_
  exact ⟨(FDv.mk (by cases x <;> rfl)), m0.c 0, m1.c 0, m2.c 0, hbb⟩
set_option maxHeartbeats 2000000 in
theorem text_any (Bo i : Nat) (x : Bs) (w : World) (c3 : w.cell? ⟨Bo, i, none⟩ = some (str x)) :
    Calls Try.prog 78 #[pa Bo i] w fun e w' => ∃ b0 b1 b2, FDv (decide (x ≠ [])) 105 106 b0 b1 b2 e ∧ w.heap.size ≤ b0 ∧ w.heap.size ≤ b1 ∧ w.heap.size ≤ b2 ∧
      w'.cell? ⟨b0, 0, none⟩ = some (pa Bo i) ∧ w'.cell? ⟨b1, 0, none⟩ = some (fn 61) ∧ w'.cell? ⟨b2, 0, none⟩ = some (fn 48) ∧ Below w.heap.size w w' := by
  have hlt : Bo < w.heap.size := World.block_lt_of_cell? _ _ c3
  have hb := bAl (Below.refl w.heap.size w) (.cells #[.bool false, .nilFunc, .nilFunc] 100)
  have mR := AtC.new w #[.bool false, .nilFunc, .nilFunc] 100
  have C := Lib.hid (part_s Bo i x _ ((hb.cell hlt).trans c3))
  have HB := Lib.hid hb
  clear hb
  generalize hZ : (decide (x ≠ [])) = z at *
  clear hZ
  go_enter Try.func78, Try.ntmps78
  go_wp2_with (go_at_call 96; ((refine C.out.mono ?_); rintro e w1 ⟨⟨⟩, d0, d1, d2, k1⟩; have mT := mR.then k1; have mTc := mT.c; have mTf := mT.f; have mTl := mT.lt; have D := Lib.hid (And.intro d0 (And.intro d1 (And.intro d2 k1))); clear d0 d1 d2 k1))
  obtain ⟨d0, d1, d2, k1⟩ := D.out
  simp only [World.size_alloc] at d0 d1 d2
  have nx : ∀ (b : Nat) (u1 u2 u3 : Value), w.heap.size < b → (((w1.setCell ⟨w.heap.size, 0, none⟩ u1).setCell ⟨w.heap.size, 1, none⟩ u2).setCell ⟨w.heap.size, 2, none⟩ u3).cell? ⟨b, 0, none⟩ = w1.cell? ⟨b, 0, none⟩ := fun b u1 u2 u3 hb => by
    have n : ∀ i, (⟨w.heap.size, i, none⟩ : Addr) ≠ ⟨b, 0, none⟩ := fun i x => by injection x with x1; omega
    rw [World.cell?_setCell_other (h := n 2), World.cell?_setCell_other (h := n 1), World.cell?_setCell_other (h := n 0)]
  refine ret_row (C := #[.bool z, .func (.func 105) #[] #[ptr (w.heap.size + 1 + 1), ptr (w.heap.size + 1)], .func (.func 106) #[] #[ptr (w.heap.size + 1 + 1 + 1), ptr (w.heap.size + 1)]]) (B := w.heap.size) rfl rfl rfl (((mT.set (i := 0) (by simp) _).set (i := 1) (by simp) _).set (i := 2) (by simp) _) (by kernel_rfl) (by kernel_rfl) ?_
  exact ⟨_, _, _, .mk', by omega, by omega, by omega, (nx _ _ _ _ (by omega)).trans d0, (nx _ _ _ _ (by omega)).trans d1, (nx _ _ _ _ (by omega)).trans d2, bStore (bStore (bStore (bThen HB.out k1) (Nat.le_refl _) _) (Nat.le_refl _) _) (Nat.le_refl _) _⟩
set_option maxHeartbeats 2000000 in
theorem put_n (Bw bp bq Bo i : Nat) (x : Nat) (hx : x < 256) (s : Option Bs) (w : World) (h : WAt w Bw s) (c1 : w.cell? ⟨bq, 0, none⟩ = some (fn 64)) (c2 : w.cell? ⟨bp, 0, none⟩ = some (pa Bo i)) (c3 : w.cell? ⟨Bo, i, none⟩ = some (.int .u8 (x : Int))) :
    Calls Try.prog 107 #[ptr Bw, ptr bq, ptr bp] w fun e w' => Wrt w Bw (addW s [UInt8.ofNat x]) e w' := by
  have D : Hid (Calls Try.prog 64 #[ptr Bw, .int .u8 (x : Int)] w.drew fun e w' => Wrt w Bw (addW s [UInt8.ofNat x]) e w') := Lib.hid ((YX.wByte_any (ptr Bw) s x hx w.drew (wpt (h.below (YX.bD1_ w)))).mono (fun e w' q => wrt_pre q (YX.bD1_ w)))
  clear h
  go_enter Try.func107, Try.ntmps107
  go_region_with (go_at_call 64; ((refine D.out.mono ?_); rintro e w1 ⟨rfl, q2, q3⟩; have H1 := Lib.hid (And.intro q2 q3); clear q2 q3))
  all_goals
    first | go_end0 | (refine bodyPost_ret (results_none rfl _ _ _) rfl ?_)
    exact ⟨rfl, H1.out.1, H1.out.2⟩
set_option maxHeartbeats 2000000 in
theorem get_n (Br bp bq Bo i : Nat) (s : Option Bs) (C : Array Value) (w : World) (h : RAt w Br s) (c1 : w.cell? ⟨bq, 0, none⟩ = some (fn 47)) (c2 : w.cell? ⟨bp, 0, none⟩ = some (pa Bo i)) (hC : AtC w Bo C) (hi : i < C.size) (h1 : Br < Bo) (h2 : bp ≠ Br) :
    Calls Try.prog 108 #[ptr Br, ptr bq, ptr bp] w fun e w' => e = .returned (.tuple #[]) ∧ RAt w' Br (rest rdB s) ∧ AtC w' Bo (C.setIfInBounds i (.int .u8 ((told (0 : Nat) rdB s : Nat) : Int))) ∧ Kept w w' (fun j => j ≠ Br ∧ j ≠ Bo) := by
  have D : Hid (Calls Try.prog 47 #[ptr Br] w.drew fun e w' => e = .returned (.int .u8 ((told (0 : Nat) rdB s : Nat) : Int)) ∧ RAt w' Br (rest rdB s) ∧ Kept w w' (· ≠ Br)) := Lib.hid ((YX.octet_any2 Br s w.drew (h.below (YX.bD1_ w))).mono (fun e w' ⟨a, b, c⟩ => ⟨a, b, Kept.trans (.of_below (YX.bD1_ w)) c⟩))
  have HC := Lib.hid hC
  have HP : Hid (∀ W, Kept w W (· ≠ Br) → W.cell? ⟨bp, 0, none⟩ = some (pa Bo i)) := Lib.hid (fun W k => (k.cell (World.block_lt_of_cell? _ _ c2) h2).trans c2)
  have hne : Bo ≠ Br := by omega
  clear h hC
  go_enter Try.func108, Try.ntmps108
  go_region_with (go_at_call 47; ((refine D.out.mono ?_); rintro e w1 ⟨rfl, q2, q3⟩; have cP := HP.out w1 q3; have m1 := HC.out.kept q3 hne; have m1c := m1.c; have m1f := m1.f; have m1l := m1.lt; have H1 := Lib.hid (And.intro q2 q3); clear q2 q3))
  all_goals
    first | go_end0 | (refine bodyPost_ret (results_none rfl _ _ _) rfl ?_)
    exact ⟨rfl, H1.out.1.other (B2 := Bo) ((Kept.refl _ _).set (B := Bo) (fun _ q => q rfl) _) h1, m1.set hi _, ((H1.out.2.weak (fun j q => q.1)).set (B := Bo) (fun _ q => q.2 rfl) _)⟩
set_option maxHeartbeats 2000000 in
theorem part_n (Bo i : Nat) (x : Nat) (w : World) (c3 : w.cell? ⟨Bo, i, none⟩ = some (.int .u8 (x : Int))) :
    Calls Try.prog 97 #[pa Bo i, fn 64, fn 47] w fun e w' => FDv (decide (x ≠ 0)) 107 108 w.heap.size (w.heap.size + 1) (w.heap.size + 1 + 1) e ∧
      w'.cell? ⟨w.heap.size, 0, none⟩ = some (pa Bo i) ∧ w'.cell? ⟨w.heap.size + 1, 0, none⟩ = some (fn 64) ∧ w'.cell? ⟨w.heap.size + 1 + 1, 0, none⟩ = some (fn 47) ∧ Below w.heap.size w w' := by
  have hlt : Bo < w.heap.size := World.block_lt_of_cell? _ _ c3
  have c4 : ((((w.alloc (.cells #[pa Bo i] 125)).alloc (.cells #[fn 64] 139)).alloc (.cells #[fn 47] 117)).alloc (.cells #[.bool false, .nilFunc, .nilFunc] 100)).cell? ⟨Bo, i, none⟩ = some (.int .u8 (x : Int)) :=
    ((bAl (bAl (bAl (bAl (Below.refl w.heap.size w) _) _) _) _).cell hlt).trans c3
  go_enter Try.func97, Try.ntmps97
  go_wp2
  have hbb : Below w.heap.size w _ := bAl (bAl (bAl (bAl (Below.refl w.heap.size w) (.cells #[pa Bo i] 125)) (.cells #[fn 64] 139)) (.cells #[fn 47] 117)) (.cells #[.bool ((x : Int) != 0), .func (.func 107) #[] #[ptr (w.heap.size + 1), ptr w.heap.size], .func (.func 108) #[] #[ptr (w.heap.size + 1 + 1), ptr w.heap.size]] 100)
  have m0 := (((AtC.new w #[pa Bo i] 125).al (.cells #[fn 64] 139)).al (.cells #[fn 47] 117)).al (.cells #[.bool ((x : Int) != 0), .func (.func 107) #[] #[ptr (w.heap.size + 1), ptr w.heap.size], .func (.func 108) #[] #[ptr (w.heap.size + 1 + 1), ptr w.heap.size]] 100)
  have m1 := ((AtC.newAt (w := w.alloc (.cells #[pa Bo i] 125)) (B := w.heap.size + 1) (C := #[fn 64]) (T := 139) (by simp)).al (.cells #[fn 47] 117)).al (.cells #[.bool ((x : Int) != 0), .func (.func 107) #[] #[ptr (w.heap.size + 1), ptr w.heap.size], .func (.func 108) #[] #[ptr (w.heap.size + 1 + 1), ptr w.heap.size]] 100)
  have m2 := (AtC.newAt (w := (w.alloc (.cells #[pa Bo i] 125)).alloc (.cells #[fn 64] 139)) (B := w.heap.size + 1 + 1) (C := #[fn 47]) (T := 117) (by simp)).al (.cells #[.bool ((x : Int) != 0), .func (.func 107) #[] #[ptr (w.heap.size + 1), ptr w.heap.size], .func (.func 108) #[] #[ptr (w.heap.size + 1 + 1), ptr w.heap.size]] 100)
  refine ret_row (C := #[.bool ((x : Int) != 0), .func (.func 107) #[] #[ptr (w.heap.size + 1), ptr w.heap.size], .func (.func 108) #[] #[ptr (w.heap.size + 1 + 1), ptr w.heap.size]]) (B := w.heap.size + 1 + 1 + 1) rfl rfl rfl (AtC.newAt (by simp)) (by kernel_rfl) (by kernel_rfl) ?_
  exact ⟨(FDv.mk (by cases x <;> rfl)), m0.c 0, m1.c 0, m2.c 0, hbb⟩
set_option maxHeartbeats 2000000 in
theorem small_any (Bo i : Nat) (x : Nat) (w : World) (c3 : w.cell? ⟨Bo, i, none⟩ = some (.int .u8 (x : Int))) :
    Calls Try.prog 79 #[pa Bo i] w fun e w' => ∃ b0 b1 b2, FDv (decide (x ≠ 0)) 107 108 b0 b1 b2 e ∧ w.heap.size ≤ b0 ∧ w.heap.size ≤ b1 ∧ w.heap.size ≤ b2 ∧
      w'.cell? ⟨b0, 0, none⟩ = some (pa Bo i) ∧ w'.cell? ⟨b1, 0, none⟩ = some (fn 64) ∧ w'.cell? ⟨b2, 0, none⟩ = some (fn 47) ∧ Below w.heap.size w w' := by
  have hlt : Bo < w.heap.size := World.block_lt_of_cell? _ _ c3
  have hb := bAl (Below.refl w.heap.size w) (.cells #[.bool false, .nilFunc, .nilFunc] 100)
  have mR := AtC.new w #[.bool false, .nilFunc, .nilFunc] 100
  have C := Lib.hid (part_n Bo i x _ ((hb.cell hlt).trans c3))
  have HB := Lib.hid hb
  clear hb
  generalize hZ : (decide (x ≠ 0)) = z at *
  clear hZ
  go_enter Try.func79, Try.ntmps79
  go_wp2_with (go_at_call 97; ((refine C.out.mono ?_); rintro e w1 ⟨⟨⟩, d0, d1, d2, k1⟩; have mT := mR.then k1; have mTc := mT.c; have mTf := mT.f; have mTl := mT.lt; have D := Lib.hid (And.intro d0 (And.intro d1 (And.intro d2 k1))); clear d0 d1 d2 k1))
  obtain ⟨d0, d1, d2, k1⟩ := D.out
  simp only [World.size_alloc] at d0 d1 d2
  have nx : ∀ (b : Nat) (u1 u2 u3 : Value), w.heap.size < b → (((w1.setCell ⟨w.heap.size, 0, none⟩ u1).setCell ⟨w.heap.size, 1, none⟩ u2).setCell ⟨w.heap.size, 2, none⟩ u3).cell? ⟨b, 0, none⟩ = w1.cell? ⟨b, 0, none⟩ := fun b u1 u2 u3 hb => by
    have n : ∀ i, (⟨w.heap.size, i, none⟩ : Addr) ≠ ⟨b, 0, none⟩ := fun i x => by injection x with x1; omega
    rw [World.cell?_setCell_other (h := n 2), World.cell?_setCell_other (h := n 1), World.cell?_setCell_other (h := n 0)]
  refine ret_row (C := #[.bool z, .func (.func 107) #[] #[ptr (w.heap.size + 1 + 1), ptr (w.heap.size + 1)], .func (.func 108) #[] #[ptr (w.heap.size + 1 + 1 + 1), ptr (w.heap.size + 1)]]) (B := w.heap.size) rfl rfl rfl (((mT.set (i := 0) (by simp) _).set (i := 1) (by simp) _).set (i := 2) (by simp) _) (by kernel_rfl) (by kernel_rfl) ?_
  exact ⟨_, _, _, .mk', by omega, by omega, by omega, (nx _ _ _ _ (by omega)).trans d0, (nx _ _ _ _ (by omega)).trans d1, (nx _ _ _ _ (by omega)).trans d2, bStore (bStore (bStore (bThen HB.out k1) (Nat.le_refl _) _) (Nat.le_refl _) _) (Nat.le_refl _) _⟩
set_option maxHeartbeats 2000000 in
theorem put_i (Bw bp bq Bo i : Nat) (x : Int) (hx : -9223372036854775808 ≤ x ∧ x < 9223372036854775808) (s : Option Bs) (w : World) (h : WAt w Bw s) (c1 : w.cell? ⟨bq, 0, none⟩ = some (fn 90)) (c2 : w.cell? ⟨bp, 0, none⟩ = some (pa Bo i)) (c3 : w.cell? ⟨Bo, i, none⟩ = some (.int .i64 x)) :
    Calls Try.prog 109 #[ptr Bw, ptr bq, ptr bp] w fun e w' => Wrt w Bw (addW s (numB (intN x))) e w' := by
  have D : Hid (Calls Try.prog 90 #[ptr Bw, .int .i64 x] w.drew fun e w' => Wrt w Bw (addW s (numB (intN x))) e w') := Lib.hid ((YX.wInt_any (ptr Bw) s x hx.1 hx.2 w.drew (wpt (h.below (YX.bD1_ w)))).mono (fun e w' q => wrt_pre q (YX.bD1_ w)))
  clear h
  go_enter Try.func109, Try.ntmps109
  go_region_with (go_at_call 90; ((refine D.out.mono ?_); rintro e w1 ⟨rfl, q2, q3⟩; have H1 := Lib.hid (And.intro q2 q3); clear q2 q3))
  all_goals
    first | go_end0 | (refine bodyPost_ret (results_none rfl _ _ _) rfl ?_)
    exact ⟨rfl, H1.out.1, H1.out.2⟩
set_option maxHeartbeats 2000000 in
theorem get_i (Br bp bq Bo i : Nat) (s : Option Bs) (C : Array Value) (w : World) (h : RAt w Br s) (c1 : w.cell? ⟨bq, 0, none⟩ = some (fn 85)) (c2 : w.cell? ⟨bp, 0, none⟩ = some (pa Bo i)) (hC : AtC w Bo C) (hi : i < C.size) (h1 : Br < Bo) (h2 : bp ≠ Br) :
    Calls Try.prog 110 #[ptr Br, ptr bq, ptr bp] w fun e w' => e = .returned (.tuple #[]) ∧ RAt w' Br (rest rdI s) ∧ AtC w' Bo (C.setIfInBounds i (.int .i64 (told (0 : Int) rdI s))) ∧ Kept w w' (fun j => j ≠ Br ∧ j ≠ Bo) := by
  have D : Hid (Calls Try.prog 85 #[ptr Br] w.drew fun e w' => e = .returned (.int .i64 (told (0 : Int) rdI s)) ∧ RAt w' Br (rest rdI s) ∧ Kept w w' (· ≠ Br)) := Lib.hid ((YX.signed_any2 Br s w.drew (h.below (YX.bD1_ w))).mono (fun e w' ⟨a, b, c⟩ => ⟨a, b, Kept.trans (.of_below (YX.bD1_ w)) c⟩))
  have HC := Lib.hid hC
  have HP : Hid (∀ W, Kept w W (· ≠ Br) → W.cell? ⟨bp, 0, none⟩ = some (pa Bo i)) := Lib.hid (fun W k => (k.cell (World.block_lt_of_cell? _ _ c2) h2).trans c2)
  have hne : Bo ≠ Br := by omega
  clear h hC
  go_enter Try.func110, Try.ntmps110
  go_region_with (go_at_call 85; ((refine D.out.mono ?_); rintro e w1 ⟨rfl, q2, q3⟩; have cP := HP.out w1 q3; have m1 := HC.out.kept q3 hne; have m1c := m1.c; have m1f := m1.f; have m1l := m1.lt; have H1 := Lib.hid (And.intro q2 q3); clear q2 q3))
  all_goals
    first | go_end0 | (refine bodyPost_ret (results_none rfl _ _ _) rfl ?_)
    exact ⟨rfl, H1.out.1.other (B2 := Bo) ((Kept.refl _ _).set (B := Bo) (fun _ q => q rfl) _) h1, m1.set hi _, ((H1.out.2.weak (fun j q => q.1)).set (B := Bo) (fun _ q => q.2 rfl) _)⟩
set_option maxHeartbeats 2000000 in
theorem part_i (Bo i : Nat) (x : Int) (w : World) (c3 : w.cell? ⟨Bo, i, none⟩ = some (.int .i64 x)) :
    Calls Try.prog 98 #[pa Bo i, fn 90, fn 85] w fun e w' => FDv (decide (x ≠ 0)) 109 110 w.heap.size (w.heap.size + 1) (w.heap.size + 1 + 1) e ∧
      w'.cell? ⟨w.heap.size, 0, none⟩ = some (pa Bo i) ∧ w'.cell? ⟨w.heap.size + 1, 0, none⟩ = some (fn 90) ∧ w'.cell? ⟨w.heap.size + 1 + 1, 0, none⟩ = some (fn 85) ∧ Below w.heap.size w w' := by
  have hlt : Bo < w.heap.size := World.block_lt_of_cell? _ _ c3
  have c4 : ((((w.alloc (.cells #[pa Bo i] 127)).alloc (.cells #[fn 90] 141)).alloc (.cells #[fn 85] 142)).alloc (.cells #[.bool false, .nilFunc, .nilFunc] 100)).cell? ⟨Bo, i, none⟩ = some (.int .i64 x) :=
    ((bAl (bAl (bAl (bAl (Below.refl w.heap.size w) _) _) _) _).cell hlt).trans c3
  go_enter Try.func98, Try.ntmps98
  go_wp2
  have hbb : Below w.heap.size w _ := bAl (bAl (bAl (bAl (Below.refl w.heap.size w) (.cells #[pa Bo i] 127)) (.cells #[fn 90] 141)) (.cells #[fn 85] 142)) (.cells #[.bool (x != 0), .func (.func 109) #[] #[ptr (w.heap.size + 1), ptr w.heap.size], .func (.func 110) #[] #[ptr (w.heap.size + 1 + 1), ptr w.heap.size]] 100)
  have m0 := (((AtC.new w #[pa Bo i] 127).al (.cells #[fn 90] 141)).al (.cells #[fn 85] 142)).al (.cells #[.bool (x != 0), .func (.func 109) #[] #[ptr (w.heap.size + 1), ptr w.heap.size], .func (.func 110) #[] #[ptr (w.heap.size + 1 + 1), ptr w.heap.size]] 100)
  have m1 := ((AtC.newAt (w := w.alloc (.cells #[pa Bo i] 127)) (B := w.heap.size + 1) (C := #[fn 90]) (T := 141) (by simp)).al (.cells #[fn 85] 142)).al (.cells #[.bool (x != 0), .func (.func 109) #[] #[ptr (w.heap.size + 1), ptr w.heap.size], .func (.func 110) #[] #[ptr (w.heap.size + 1 + 1), ptr w.heap.size]] 100)
  have m2 := (AtC.newAt (w := (w.alloc (.cells #[pa Bo i] 127)).alloc (.cells #[fn 90] 141)) (B := w.heap.size + 1 + 1) (C := #[fn 85]) (T := 142) (by simp)).al (.cells #[.bool (x != 0), .func (.func 109) #[] #[ptr (w.heap.size + 1), ptr w.heap.size], .func (.func 110) #[] #[ptr (w.heap.size + 1 + 1), ptr w.heap.size]] 100)
  refine ret_row (C := #[.bool (x != 0), .func (.func 109) #[] #[ptr (w.heap.size + 1), ptr w.heap.size], .func (.func 110) #[] #[ptr (w.heap.size + 1 + 1), ptr w.heap.size]]) (B := w.heap.size + 1 + 1 + 1) rfl rfl rfl (AtC.newAt (by simp)) (by kernel_rfl) (by kernel_rfl) ?_
  exact ⟨(FDv.mk (by by_cases h : x = 0 <;> simp [h])), m0.c 0, m1.c 0, m2.c 0, hbb⟩
set_option maxHeartbeats 2000000 in
theorem number_any (Bo i : Nat) (x : Int) (w : World) (c3 : w.cell? ⟨Bo, i, none⟩ = some (.int .i64 x)) :
    Calls Try.prog 80 #[pa Bo i] w fun e w' => ∃ b0 b1 b2, FDv (decide (x ≠ 0)) 109 110 b0 b1 b2 e ∧ w.heap.size ≤ b0 ∧ w.heap.size ≤ b1 ∧ w.heap.size ≤ b2 ∧
      w'.cell? ⟨b0, 0, none⟩ = some (pa Bo i) ∧ w'.cell? ⟨b1, 0, none⟩ = some (fn 90) ∧ w'.cell? ⟨b2, 0, none⟩ = some (fn 85) ∧ Below w.heap.size w w' := by
  have hlt : Bo < w.heap.size := World.block_lt_of_cell? _ _ c3
  have hb := bAl (Below.refl w.heap.size w) (.cells #[.bool false, .nilFunc, .nilFunc] 100)
  have mR := AtC.new w #[.bool false, .nilFunc, .nilFunc] 100
  have C := Lib.hid (part_i Bo i x _ ((hb.cell hlt).trans c3))
  have HB := Lib.hid hb
  clear hb
  generalize hZ : (decide (x ≠ 0)) = z at *
  clear hZ
  go_enter Try.func80, Try.ntmps80
  go_wp2_with (go_at_call 98; ((refine C.out.mono ?_); rintro e w1 ⟨⟨⟩, d0, d1, d2, k1⟩; have mT := mR.then k1; have mTc := mT.c; have mTf := mT.f; have mTl := mT.lt; have D := Lib.hid (And.intro d0 (And.intro d1 (And.intro d2 k1))); clear d0 d1 d2 k1))
  obtain ⟨d0, d1, d2, k1⟩ := D.out
  simp only [World.size_alloc] at d0 d1 d2
  have nx : ∀ (b : Nat) (u1 u2 u3 : Value), w.heap.size < b → (((w1.setCell ⟨w.heap.size, 0, none⟩ u1).setCell ⟨w.heap.size, 1, none⟩ u2).setCell ⟨w.heap.size, 2, none⟩ u3).cell? ⟨b, 0, none⟩ = w1.cell? ⟨b, 0, none⟩ := fun b u1 u2 u3 hb => by
    have n : ∀ i, (⟨w.heap.size, i, none⟩ : Addr) ≠ ⟨b, 0, none⟩ := fun i x => by injection x with x1; omega
    rw [World.cell?_setCell_other (h := n 2), World.cell?_setCell_other (h := n 1), World.cell?_setCell_other (h := n 0)]
  refine ret_row (C := #[.bool z, .func (.func 109) #[] #[ptr (w.heap.size + 1 + 1), ptr (w.heap.size + 1)], .func (.func 110) #[] #[ptr (w.heap.size + 1 + 1 + 1), ptr (w.heap.size + 1)]]) (B := w.heap.size) rfl rfl rfl (((mT.set (i := 0) (by simp) _).set (i := 1) (by simp) _).set (i := 2) (by simp) _) (by kernel_rfl) (by kernel_rfl) ?_
  exact ⟨_, _, _, .mk', by omega, by omega, by omega, (nx _ _ _ _ (by omega)).trans d0, (nx _ _ _ _ (by omega)).trans d1, (nx _ _ _ _ (by omega)).trans d2, bStore (bStore (bStore (bThen HB.out k1) (Nat.le_refl _) _) (Nat.le_refl _) _) (Nat.le_refl _) _⟩
set_option maxHeartbeats 2000000 in
theorem put_b (Bw bp bq Bo i : Nat) (x : Bool)  (s : Option Bs) (w : World) (h : WAt w Bw s) (c1 : w.cell? ⟨bq, 0, none⟩ = some (fn 100)) (c2 : w.cell? ⟨bp, 0, none⟩ = some (pa Bo i)) (c3 : w.cell? ⟨Bo, i, none⟩ = some (.bool x)) :
    Calls Try.prog 111 #[ptr Bw, ptr bq, ptr bp] w fun e w' => Wrt w Bw s e w' := by
  have D : Hid (Calls Try.prog 100 #[ptr Bw, .bool x] w.drew fun e w' => Wrt w Bw s e w') := Lib.hid ((flag_put _ _ _).mono (fun e w' ⟨a, b⟩ => ⟨a, b ▸ h.below (YX.bD1_ w), b ▸ .of_below (YX.bD1_ w)⟩))
  clear h
  go_enter Try.func111, Try.ntmps111
  go_region_with (go_at_call 100; ((refine D.out.mono ?_); rintro e w1 ⟨rfl, q2, q3⟩; have H1 := Lib.hid (And.intro q2 q3); clear q2 q3))
  all_goals
    first | go_end0 | (refine bodyPost_ret (results_none rfl _ _ _) rfl ?_)
    exact ⟨rfl, H1.out.1, H1.out.2⟩
set_option maxHeartbeats 2000000 in
theorem get_b (Br bp bq Bo i : Nat) (s : Option Bs) (C : Array Value) (w : World) (h : RAt w Br s) (c1 : w.cell? ⟨bq, 0, none⟩ = some (fn 101)) (c2 : w.cell? ⟨bp, 0, none⟩ = some (pa Bo i)) (hC : AtC w Bo C) (hi : i < C.size) (h1 : Br < Bo) (h2 : bp ≠ Br) :
    Calls Try.prog 112 #[ptr Br, ptr bq, ptr bp] w fun e w' => e = .returned (.tuple #[]) ∧ RAt w' Br s ∧ AtC w' Bo (C.setIfInBounds i (.bool true)) ∧ Kept w w' (fun j => j ≠ Br ∧ j ≠ Bo) := by
  have D : Hid (Calls Try.prog 101 #[ptr Br] w.drew fun e w' => e = .returned (.bool true) ∧ RAt w' Br s ∧ Kept w w' (· ≠ Br)) := Lib.hid ((flag_get _ _).mono (fun e w' ⟨a, b⟩ => ⟨a, b ▸ h.below (YX.bD1_ w), b ▸ .of_below (YX.bD1_ w)⟩))
  have HC := Lib.hid hC
  have HP : Hid (∀ W, Kept w W (· ≠ Br) → W.cell? ⟨bp, 0, none⟩ = some (pa Bo i)) := Lib.hid (fun W k => (k.cell (World.block_lt_of_cell? _ _ c2) h2).trans c2)
  have hne : Bo ≠ Br := by omega
  clear h hC
  go_enter Try.func112, Try.ntmps112
  go_region_with (go_at_call 101; ((refine D.out.mono ?_); rintro e w1 ⟨rfl, q2, q3⟩; have cP := HP.out w1 q3; have m1 := HC.out.kept q3 hne; have m1c := m1.c; have m1f := m1.f; have m1l := m1.lt; have H1 := Lib.hid (And.intro q2 q3); clear q2 q3))
  all_goals
    first | go_end0 | (refine bodyPost_ret (results_none rfl _ _ _) rfl ?_)
    exact ⟨rfl, H1.out.1.other (B2 := Bo) ((Kept.refl _ _).set (B := Bo) (fun _ q => q rfl) _) h1, m1.set hi _, ((H1.out.2.weak (fun j q => q.1)).set (B := Bo) (fun _ q => q.2 rfl) _)⟩
set_option maxHeartbeats 2000000 in
theorem part_b (Bo i : Nat) (x : Bool) (w : World) (c3 : w.cell? ⟨Bo, i, none⟩ = some (.bool x)) :
    Calls Try.prog 99 #[pa Bo i, fn 100, fn 101] w fun e w' => FDv (x) 111 112 w.heap.size (w.heap.size + 1) (w.heap.size + 1 + 1) e ∧
      w'.cell? ⟨w.heap.size, 0, none⟩ = some (pa Bo i) ∧ w'.cell? ⟨w.heap.size + 1, 0, none⟩ = some (fn 100) ∧ w'.cell? ⟨w.heap.size + 1 + 1, 0, none⟩ = some (fn 101) ∧ Below w.heap.size w w' := by
  have hlt : Bo < w.heap.size := World.block_lt_of_cell? _ _ c3
  have c4 : ((((w.alloc (.cells #[pa Bo i] 129)).alloc (.cells #[fn 100] 144)).alloc (.cells #[fn 101] 131)).alloc (.cells #[.bool false, .nilFunc, .nilFunc] 100)).cell? ⟨Bo, i, none⟩ = some (.bool x) :=
    ((bAl (bAl (bAl (bAl (Below.refl w.heap.size w) _) _) _) _).cell hlt).trans c3
  go_enter Try.func99, Try.ntmps99
  go_wp2
  have hbb : Below w.heap.size w _ := bAl (bAl (bAl (bAl (Below.refl w.heap.size w) (.cells #[pa Bo i] 129)) (.cells #[fn 100] 144)) (.cells #[fn 101] 131)) (.cells #[.bool (x), .func (.func 111) #[] #[ptr (w.heap.size + 1), ptr w.heap.size], .func (.func 112) #[] #[ptr (w.heap.size + 1 + 1), ptr w.heap.size]] 100)
  have m0 := (((AtC.new w #[pa Bo i] 129).al (.cells #[fn 100] 144)).al (.cells #[fn 101] 131)).al (.cells #[.bool (x), .func (.func 111) #[] #[ptr (w.heap.size + 1), ptr w.heap.size], .func (.func 112) #[] #[ptr (w.heap.size + 1 + 1), ptr w.heap.size]] 100)
  have m1 := ((AtC.newAt (w := w.alloc (.cells #[pa Bo i] 129)) (B := w.heap.size + 1) (C := #[fn 100]) (T := 144) (by simp)).al (.cells #[fn 101] 131)).al (.cells #[.bool (x), .func (.func 111) #[] #[ptr (w.heap.size + 1), ptr w.heap.size], .func (.func 112) #[] #[ptr (w.heap.size + 1 + 1), ptr w.heap.size]] 100)
  have m2 := (AtC.newAt (w := (w.alloc (.cells #[pa Bo i] 129)).alloc (.cells #[fn 100] 144)) (B := w.heap.size + 1 + 1) (C := #[fn 101]) (T := 131) (by simp)).al (.cells #[.bool (x), .func (.func 111) #[] #[ptr (w.heap.size + 1), ptr w.heap.size], .func (.func 112) #[] #[ptr (w.heap.size + 1 + 1), ptr w.heap.size]] 100)
  refine ret_row (C := #[.bool (x), .func (.func 111) #[] #[ptr (w.heap.size + 1), ptr w.heap.size], .func (.func 112) #[] #[ptr (w.heap.size + 1 + 1), ptr w.heap.size]]) (B := w.heap.size + 1 + 1 + 1) rfl rfl rfl (AtC.newAt (by simp)) (by kernel_rfl) (by kernel_rfl) ?_
  exact ⟨(FDv.mk (rfl)), m0.c 0, m1.c 0, m2.c 0, hbb⟩
set_option maxHeartbeats 2000000 in
theorem flag_any (Bo i : Nat) (x : Bool) (w : World) (c3 : w.cell? ⟨Bo, i, none⟩ = some (.bool x)) :
    Calls Try.prog 81 #[pa Bo i] w fun e w' => ∃ b0 b1 b2, FDv (x) 111 112 b0 b1 b2 e ∧ w.heap.size ≤ b0 ∧ w.heap.size ≤ b1 ∧ w.heap.size ≤ b2 ∧
      w'.cell? ⟨b0, 0, none⟩ = some (pa Bo i) ∧ w'.cell? ⟨b1, 0, none⟩ = some (fn 100) ∧ w'.cell? ⟨b2, 0, none⟩ = some (fn 101) ∧ Below w.heap.size w w' := by
  have hlt : Bo < w.heap.size := World.block_lt_of_cell? _ _ c3
  have hb := bAl (Below.refl w.heap.size w) (.cells #[.bool false, .nilFunc, .nilFunc] 100)
  have mR := AtC.new w #[.bool false, .nilFunc, .nilFunc] 100
  have C := Lib.hid (part_b Bo i x _ ((hb.cell hlt).trans c3))
  have HB := Lib.hid hb
  clear hb
  generalize hZ : (x) = z at *
  clear hZ
  go_enter Try.func81, Try.ntmps81
  go_wp2_with (go_at_call 99; ((refine C.out.mono ?_); rintro e w1 ⟨⟨⟩, d0, d1, d2, k1⟩; have mT := mR.then k1; have mTc := mT.c; have mTf := mT.f; have mTl := mT.lt; have D := Lib.hid (And.intro d0 (And.intro d1 (And.intro d2 k1))); clear d0 d1 d2 k1))
  obtain ⟨d0, d1, d2, k1⟩ := D.out
  simp only [World.size_alloc] at d0 d1 d2
  have nx : ∀ (b : Nat) (u1 u2 u3 : Value), w.heap.size < b → (((w1.setCell ⟨w.heap.size, 0, none⟩ u1).setCell ⟨w.heap.size, 1, none⟩ u2).setCell ⟨w.heap.size, 2, none⟩ u3).cell? ⟨b, 0, none⟩ = w1.cell? ⟨b, 0, none⟩ := fun b u1 u2 u3 hb => by
    have n : ∀ i, (⟨w.heap.size, i, none⟩ : Addr) ≠ ⟨b, 0, none⟩ := fun i x => by injection x with x1; omega
    rw [World.cell?_setCell_other (h := n 2), World.cell?_setCell_other (h := n 1), World.cell?_setCell_other (h := n 0)]
  refine ret_row (C := #[.bool z, .func (.func 111) #[] #[ptr (w.heap.size + 1 + 1), ptr (w.heap.size + 1)], .func (.func 112) #[] #[ptr (w.heap.size + 1 + 1 + 1), ptr (w.heap.size + 1)]]) (B := w.heap.size) rfl rfl rfl (((mT.set (i := 0) (by simp) _).set (i := 1) (by simp) _).set (i := 2) (by simp) _) (by kernel_rfl) (by kernel_rfl) ?_
  exact ⟨_, _, _, .mk', by omega, by omega, by omega, (nx _ _ _ _ (by omega)).trans d0, (nx _ _ _ _ (by omega)).trans d1, (nx _ _ _ _ (by omega)).trans d2, bStore (bStore (bStore (bThen HB.out k1) (Nat.le_refl _) _) (Nat.le_refl _) _) (Nat.le_refl _) _⟩
end Go.Proofs.Ytejjlmdaalfenaa.PX
