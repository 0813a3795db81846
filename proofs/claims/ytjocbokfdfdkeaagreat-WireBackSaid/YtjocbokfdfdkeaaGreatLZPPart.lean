/-
  WALKS: part, its two closures, and text, small, number, flag: one field of an object.
-/
import Derived.Test.YtjocbokfdfdkeaaGreatLZPCod
import Derived.Test.YtjocbokfdfdkeaaGreatLZYByte
import Derived.Test.YtjocbokfdfdkeaaGreatLZYWrite
import Derived.Laws.EntriesVeiled
import Derived.Deep.RegionWith
namespace Go.Proofs.YtjocbokfdfdkeaaGreat.PX
open Go.RowKit HL
open IX (ptr El cellsK cellsK_at OwnK RdK Kept)
open YX (numB rdU rdB rdT rdS rdI addW intN natI rest told WAt WPt Wr RAt vS vU vI)
set_option maxRecDepth 100000
set_option linter.unusedVariables false
set_option linter.unusedSimpArgs false

abbrev fn (f : Nat) : Value := .func (.func f) #[] #[]
/-- What tells a field: whether it is not zero, the two closures. -/
inductive FDv (z : Bool) (p1 p2 b0 b1 b2 : Nat) : Ending → Prop where
  | mk' : FDv z p1 p2 b0 b1 b2 (.returned (.agg #[.bool z, .func (.func p1) #[] #[ptr b1, ptr b0], .func (.func p2) #[] #[ptr b2, ptr b0]]))
theorem FDv.mk {z z2 : Bool} {p1 p2 b0 b1 b2 : Nat} (h : z2 = z) : FDv z p1 p2 b0 b1 b2 (.returned (.agg #[.bool z2, .func (.func p1) #[] #[ptr b1, ptr b0], .func (.func p2) #[] #[ptr b2, ptr b0]])) := by subst h; exact .mk'
abbrev pa (b i : Nat) : Value := .pointer (some ⟨b, i, none⟩)
/-- What a call of a writer comes to. -/
def Wrt (w0 : World) (Bw : Nat) (s : Option Bs) (e : Ending) (w' : World) : Prop := e = .returned (.tuple #[]) ∧ WAt w' Bw s ∧ Kept w0 w' (· ≠ Bw)
theorem wrt {w0 : World} {Bw : Nat} {s : Option Bs} {e : Ending} {w' : World} (h : Wr w0 (ptr Bw) s e w') : Wrt w0 Bw s e w' := ⟨h.1, (h.2.2 Bw rfl).1, (h.2.2 Bw rfl).2⟩
theorem wpt {w : World} {Bw : Nat} {s : Option Bs} (h : WAt w Bw s) : WPt w (ptr Bw) s := .inr ⟨Bw, rfl, h⟩
theorem wrt_pre {w0 w1 : World} {Bw : Nat} {s : Option Bs} {e : Ending} {w' : World} (h : Wr w1 (ptr Bw) s e w') (k : Below w0.heap.size w0 w1) : Wrt w0 Bw s e w' := ⟨h.1, (h.2.2 Bw rfl).1, Kept.trans (.of_below k) (h.2.2 Bw rfl).2⟩
theorem flag_put (v : Value) (x : Bool) (w : World) : Calls Tryz.prog 142 #[v, .bool x] w fun e w' => e = .returned (.tuple #[]) ∧ w = w' := by
  go_enter Tryz.func142, Tryz.ntmps142
  try go_wp2
  first | go_end0 | (refine bodyPost_ret (results_none rfl _ _ _) rfl ?_)
  exact ⟨rfl, rfl⟩
theorem flag_get (v : Value) (w : World) : Calls Tryz.prog 143 #[v] w fun e w' => e = .returned (.bool true) ∧ w = w' := by
  go_enter Tryz.func143, Tryz.ntmps143
  go_wp2
  go_ret
  exact ⟨rfl, rfl⟩
set_option maxHeartbeats 2000000 in
theorem put_s (Bw bp bq Bo i : Nat) (x : Bs) (hx : x.length ≤ 900000) (s : Option Bs) (w : World) (h : WAt w Bw s) (c1 : w.cell? ⟨bq, 0, none⟩ = some (fn 81)) (c2 : w.cell? ⟨bp, 0, none⟩ = some (pa Bo i)) (c3 : w.cell? ⟨Bo, i, none⟩ = some (str x)) :
    Calls Tryz.prog 144 #[ptr Bw, ptr bq, ptr bp] w fun e w' => Wrt w Bw (textW s x) e w' := by
  have D : Hid (Calls Tryz.prog 81 #[ptr Bw, str x] w.drew fun e w' => Wrt w Bw (textW s x) e w') := Lib.hid ((YX.wText_any (ptr Bw) s x w.drew hx (wpt (h.below (YX.bD1_ w)))).mono (fun e w' q => wrt_pre q (YX.bD1_ w)))
  clear h
  go_enter Tryz.func144, Tryz.ntmps144
  go_region_with (go_at_call 81; ((refine D.out.mono ?_); rintro e w1 ⟨rfl, q2, q3⟩; have H1 := Lib.hid (And.intro q2 q3); clear q2 q3))
  all_goals
    first | go_end0 | (refine bodyPost_ret (results_none rfl _ _ _) rfl ?_)
    exact ⟨rfl, H1.out.1, H1.out.2⟩
set_option maxHeartbeats 2000000 in
theorem get_s (Br bp bq Bo i : Nat) (s : Option Bs) (C : Array Value) (w : World) (h : RAt w Br s) (c1 : w.cell? ⟨bq, 0, none⟩ = some (fn 89)) (c2 : w.cell? ⟨bp, 0, none⟩ = some (pa Bo i)) (hC : AtC w Bo C) (hi : i < C.size) (h1 : Br < Bo) (h2 : bp ≠ Br) :
    Calls Tryz.prog 145 #[ptr Br, ptr bq, ptr bp] w fun e w' => e = .returned (.tuple #[]) ∧ RAt w' Br (rest rdS s) ∧ AtC w' Bo (C.setIfInBounds i (vS (told ([] : Bs) rdS s))) ∧ Kept w w' (fun j => j ≠ Br ∧ j ≠ Bo) := by
  have D : Hid (Calls Tryz.prog 89 #[ptr Br] w.drew fun e w' => e = .returned (vS (told ([] : Bs) rdS s)) ∧ RAt w' Br (rest rdS s) ∧ Kept w w' (· ≠ Br)) := Lib.hid ((YX.text_any2 Br s w.drew (h.below (YX.bD1_ w))).mono (fun e w' ⟨a, b, c⟩ => ⟨a, b, Kept.trans (.of_below (YX.bD1_ w)) c⟩))
  have HC := Lib.hid hC
  have HP : Hid (∀ W, Kept w W (· ≠ Br) → W.cell? ⟨bp, 0, none⟩ = some (pa Bo i)) := Lib.hid (fun W k => (k.cell (World.block_lt_of_cell? _ _ c2) h2).trans c2)
  have hne : Bo ≠ Br := by omega
  clear h hC
  go_enter Tryz.func145, Tryz.ntmps145
  go_region_with (go_at_call 89; ((refine D.out.mono ?_); rintro e w1 ⟨rfl, q2, q3⟩; have cP := HP.out w1 q3; have m1 := HC.out.kept q3 hne; have m1c := m1.c; have m1f := m1.f; have m1l := m1.lt; have H1 := Lib.hid (And.intro q2 q3); clear q2 q3))
  all_goals
    first | go_end0 | (refine bodyPost_ret (results_none rfl _ _ _) rfl ?_)
    exact ⟨rfl, H1.out.1.other (B2 := Bo) ((Kept.refl _ _).set (B := Bo) (fun _ q => q rfl) _) h1, m1.set hi _, ((H1.out.2.weak (fun j q => q.1)).set (B := Bo) (fun _ q => q.2 rfl) _)⟩
set_option maxHeartbeats 2000000 in
theorem part_s (Bo i : Nat) (x : Bs) (w : World) (c3 : w.cell? ⟨Bo, i, none⟩ = some (str x)) :
    Calls Tryz.prog 138 #[pa Bo i, fn 81, fn 89] w fun e w' => FDv (decide (x ≠ [])) 144 145 w.heap.size (w.heap.size + 1) (w.heap.size + 1 + 1) e ∧
      w'.cell? ⟨w.heap.size, 0, none⟩ = some (pa Bo i) ∧ w'.cell? ⟨w.heap.size + 1, 0, none⟩ = some (fn 81) ∧ w'.cell? ⟨w.heap.size + 1 + 1, 0, none⟩ = some (fn 89) ∧ Below w.heap.size w w' := by
  have hlt : Bo < w.heap.size := World.block_lt_of_cell? _ _ c3
  have c4 : ((((w.alloc (.cells #[pa Bo i] 182)).alloc (.cells #[fn 81] 131)).alloc (.cells #[fn 89] 132)).alloc (.cells #[.bool false, .nilFunc, .nilFunc] 177)).cell? ⟨Bo, i, none⟩ = some (str x) :=
    ((bAl (bAl (bAl (bAl (Below.refl w.heap.size w) _) _) _) _).cell hlt).trans c3
  go_enter Tryz.func138, Tryz.ntmps138
  go_wp2
  have hbb : Below w.heap.size w _ := bAl (bAl (bAl (bAl (Below.refl w.heap.size w) (.cells #[pa Bo i] 182)) (.cells #[fn 81] 131)) (.cells #[fn 89] 132)) (.cells #[.bool (!List.isEmpty x), .func (.func 144) #[] #[ptr (w.heap.size + 1), ptr w.heap.size], .func (.func 145) #[] #[ptr (w.heap.size + 1 + 1), ptr w.heap.size]] 177)
  have m0 := (((AtC.new w #[pa Bo i] 182).al (.cells #[fn 81] 131)).al (.cells #[fn 89] 132)).al (.cells #[.bool (!List.isEmpty x), .func (.func 144) #[] #[ptr (w.heap.size + 1), ptr w.heap.size], .func (.func 145) #[] #[ptr (w.heap.size + 1 + 1), ptr w.heap.size]] 177)
  have m1 := ((AtC.newAt (w := w.alloc (.cells #[pa Bo i] 182)) (B := w.heap.size + 1) (C := #[fn 81]) (T := 131) (by simp)).al (.cells #[fn 89] 132)).al (.cells #[.bool (!List.isEmpty x), .func (.func 144) #[] #[ptr (w.heap.size + 1), ptr w.heap.size], .func (.func 145) #[] #[ptr (w.heap.size + 1 + 1), ptr w.heap.size]] 177)
  have m2 := (AtC.newAt (w := (w.alloc (.cells #[pa Bo i] 182)).alloc (.cells #[fn 81] 131)) (B := w.heap.size + 1 + 1) (C := #[fn 89]) (T := 132) (by simp)).al (.cells #[.bool (!List.isEmpty x), .func (.func 144) #[] #[ptr (w.heap.size + 1), ptr w.heap.size], .func (.func 145) #[] #[ptr (w.heap.size + 1 + 1), ptr w.heap.size]] 177)
  refine ret_row (C := #[.bool (!List.isEmpty x), .func (.func 144) #[] #[ptr (w.heap.size + 1), ptr w.heap.size], .func (.func 145) #[] #[ptr (w.heap.size + 1 + 1), ptr w.heap.size]]) (B := w.heap.size + 1 + 1 + 1) rfl rfl rfl (AtC.newAt (by simp)) (by kernel_rfl) (by kernel_rfl) ?_
  exact ⟨(FDv.mk (by cases x <;> rfl)), m0.c 0, m1.c 0, m2.c 0, hbb⟩
set_option maxHeartbeats 2000000 in
theorem text_any (Bo i : Nat) (x : Bs) (w : World) (c3 : w.cell? ⟨Bo, i, none⟩ = some (str x)) :
    Calls Tryz.prog 134 #[pa Bo i] w fun e w' => ∃ b0 b1 b2, FDv (decide (x ≠ [])) 144 145 b0 b1 b2 e ∧ w.heap.size ≤ b0 ∧ w.heap.size ≤ b1 ∧ w.heap.size ≤ b2 ∧
      w'.cell? ⟨b0, 0, none⟩ = some (pa Bo i) ∧ w'.cell? ⟨b1, 0, none⟩ = some (fn 81) ∧ w'.cell? ⟨b2, 0, none⟩ = some (fn 89) ∧ Below w.heap.size w w' := by
  have hlt : Bo < w.heap.size := World.block_lt_of_cell? _ _ c3
  have hb := bAl (Below.refl w.heap.size w) (.cells #[.bool false, .nilFunc, .nilFunc] 177)
  have mR := AtC.new w #[.bool false, .nilFunc, .nilFunc] 177
  have C := Lib.hid (part_s Bo i x _ ((hb.cell hlt).trans c3))
  have HB := Lib.hid hb
  clear hb
  generalize hZ : (decide (x ≠ [])) = z at *
  clear hZ
  go_enter Tryz.func134, Tryz.ntmps134
  go_wp2_with (go_at_call 138; ((refine C.out.mono ?_); rintro e w1 ⟨⟨⟩, d0, d1, d2, k1⟩; have mT := mR.then k1; have mTc := mT.c; have mTf := mT.f; have mTl := mT.lt; have D := Lib.hid (And.intro d0 (And.intro d1 (And.intro d2 k1))); clear d0 d1 d2 k1))
  obtain ⟨d0, d1, d2, k1⟩ := D.out
  simp only [World.size_alloc] at d0 d1 d2
  have nx : ∀ (b : Nat) (u1 u2 u3 : Value), w.heap.size < b → (((w1.setCell ⟨w.heap.size, 0, none⟩ u1).setCell ⟨w.heap.size, 1, none⟩ u2).setCell ⟨w.heap.size, 2, none⟩ u3).cell? ⟨b, 0, none⟩ = w1.cell? ⟨b, 0, none⟩ := fun b u1 u2 u3 hb => by
    have n : ∀ i, (⟨w.heap.size, i, none⟩ : Addr) ≠ ⟨b, 0, none⟩ := fun i x => by injection x with x1; omega
    rw [World.cell?_setCell_other (h := n 2), World.cell?_setCell_other (h := n 1), World.cell?_setCell_other (h := n 0)]
  refine ret_row (C := #[.bool z, .func (.func 144) #[] #[ptr (w.heap.size + 1 + 1), ptr (w.heap.size + 1)], .func (.func 145) #[] #[ptr (w.heap.size + 1 + 1 + 1), ptr (w.heap.size + 1)]]) (B := w.heap.size) rfl rfl rfl (((mT.set (i := 0) (by simp) _).set (i := 1) (by simp) _).set (i := 2) (by simp) _) (by kernel_rfl) (by kernel_rfl) ?_
  exact ⟨_, _, _, .mk', by omega, by omega, by omega, (nx _ _ _ _ (by omega)).trans d0, (nx _ _ _ _ (by omega)).trans d1, (nx _ _ _ _ (by omega)).trans d2, bStore (bStore (bStore (bThen HB.out k1) (Nat.le_refl _) _) (Nat.le_refl _) _) (Nat.le_refl _) _⟩
set_option maxHeartbeats 2000000 in
theorem put_n (Bw bp bq Bo i : Nat) (x : Nat) (hx : x < 256) (s : Option Bs) (w : World) (h : WAt w Bw s) (c1 : w.cell? ⟨bq, 0, none⟩ = some (fn 80)) (c2 : w.cell? ⟨bp, 0, none⟩ = some (pa Bo i)) (c3 : w.cell? ⟨Bo, i, none⟩ = some (.int .u8 (x : Int))) :
    Calls Tryz.prog 146 #[ptr Bw, ptr bq, ptr bp] w fun e w' => Wrt w Bw (addW s [UInt8.ofNat x]) e w' := by
  have D : Hid (Calls Tryz.prog 80 #[ptr Bw, .int .u8 (x : Int)] w.drew fun e w' => Wrt w Bw (addW s [UInt8.ofNat x]) e w') := Lib.hid ((YX.wByte_any (ptr Bw) s x hx w.drew (wpt (h.below (YX.bD1_ w)))).mono (fun e w' q => wrt_pre q (YX.bD1_ w)))
  clear h
  go_enter Tryz.func146, Tryz.ntmps146
  go_region_with (go_at_call 80; ((refine D.out.mono ?_); rintro e w1 ⟨rfl, q2, q3⟩; have H1 := Lib.hid (And.intro q2 q3); clear q2 q3))
  all_goals
    first | go_end0 | (refine bodyPost_ret (results_none rfl _ _ _) rfl ?_)
    exact ⟨rfl, H1.out.1, H1.out.2⟩
set_option maxHeartbeats 2000000 in
theorem get_n (Br bp bq Bo i : Nat) (s : Option Bs) (C : Array Value) (w : World) (h : RAt w Br s) (c1 : w.cell? ⟨bq, 0, none⟩ = some (fn 88)) (c2 : w.cell? ⟨bp, 0, none⟩ = some (pa Bo i)) (hC : AtC w Bo C) (hi : i < C.size) (h1 : Br < Bo) (h2 : bp ≠ Br) :
    Calls Tryz.prog 147 #[ptr Br, ptr bq, ptr bp] w fun e w' => e = .returned (.tuple #[]) ∧ RAt w' Br (rest rdB s) ∧ AtC w' Bo (C.setIfInBounds i (.int .u8 ((told (0 : Nat) rdB s : Nat) : Int))) ∧ Kept w w' (fun j => j ≠ Br ∧ j ≠ Bo) := by
  have D : Hid (Calls Tryz.prog 88 #[ptr Br] w.drew fun e w' => e = .returned (.int .u8 ((told (0 : Nat) rdB s : Nat) : Int)) ∧ RAt w' Br (rest rdB s) ∧ Kept w w' (· ≠ Br)) := Lib.hid ((YX.octet_any2 Br s w.drew (h.below (YX.bD1_ w))).mono (fun e w' ⟨a, b, c⟩ => ⟨a, b, Kept.trans (.of_below (YX.bD1_ w)) c⟩))
  have HC := Lib.hid hC
  have HP : Hid (∀ W, Kept w W (· ≠ Br) → W.cell? ⟨bp, 0, none⟩ = some (pa Bo i)) := Lib.hid (fun W k => (k.cell (World.block_lt_of_cell? _ _ c2) h2).trans c2)
  have hne : Bo ≠ Br := by omega
  clear h hC
  go_enter Tryz.func147, Tryz.ntmps147
  go_region_with (go_at_call 88; ((refine D.out.mono ?_); rintro e w1 ⟨rfl, q2, q3⟩; have cP := HP.out w1 q3; have m1 := HC.out.kept q3 hne; have m1c := m1.c; have m1f := m1.f; have m1l := m1.lt; have H1 := Lib.hid (And.intro q2 q3); clear q2 q3))
  all_goals
    first | go_end0 | (refine bodyPost_ret (results_none rfl _ _ _) rfl ?_)
    exact ⟨rfl, H1.out.1.other (B2 := Bo) ((Kept.refl _ _).set (B := Bo) (fun _ q => q rfl) _) h1, m1.set hi _, ((H1.out.2.weak (fun j q => q.1)).set (B := Bo) (fun _ q => q.2 rfl) _)⟩
set_option maxHeartbeats 2000000 in
theorem part_n (Bo i : Nat) (x : Nat) (w : World) (c3 : w.cell? ⟨Bo, i, none⟩ = some (.int .u8 (x : Int))) :
    Calls Tryz.prog 139 #[pa Bo i, fn 80, fn 88] w fun e w' => FDv (decide (x ≠ 0)) 146 147 w.heap.size (w.heap.size + 1) (w.heap.size + 1 + 1) e ∧
      w'.cell? ⟨w.heap.size, 0, none⟩ = some (pa Bo i) ∧ w'.cell? ⟨w.heap.size + 1, 0, none⟩ = some (fn 80) ∧ w'.cell? ⟨w.heap.size + 1 + 1, 0, none⟩ = some (fn 88) ∧ Below w.heap.size w w' := by
  have hlt : Bo < w.heap.size := World.block_lt_of_cell? _ _ c3
  have c4 : ((((w.alloc (.cells #[pa Bo i] 184)).alloc (.cells #[fn 80] 193)).alloc (.cells #[fn 88] 162)).alloc (.cells #[.bool false, .nilFunc, .nilFunc] 177)).cell? ⟨Bo, i, none⟩ = some (.int .u8 (x : Int)) :=
    ((bAl (bAl (bAl (bAl (Below.refl w.heap.size w) _) _) _) _).cell hlt).trans c3
  go_enter Tryz.func139, Tryz.ntmps139
  go_wp2
  have hbb : Below w.heap.size w _ := bAl (bAl (bAl (bAl (Below.refl w.heap.size w) (.cells #[pa Bo i] 184)) (.cells #[fn 80] 193)) (.cells #[fn 88] 162)) (.cells #[.bool ((x : Int) != 0), .func (.func 146) #[] #[ptr (w.heap.size + 1), ptr w.heap.size], .func (.func 147) #[] #[ptr (w.heap.size + 1 + 1), ptr w.heap.size]] 177)
  have m0 := (((AtC.new w #[pa Bo i] 184).al (.cells #[fn 80] 193)).al (.cells #[fn 88] 162)).al (.cells #[.bool ((x : Int) != 0), .func (.func 146) #[] #[ptr (w.heap.size + 1), ptr w.heap.size], .func (.func 147) #[] #[ptr (w.heap.size + 1 + 1), ptr w.heap.size]] 177)
  have m1 := ((AtC.newAt (w := w.alloc (.cells #[pa Bo i] 184)) (B := w.heap.size + 1) (C := #[fn 80]) (T := 193) (by simp)).al (.cells #[fn 88] 162)).al (.cells #[.bool ((x : Int) != 0), .func (.func 146) #[] #[ptr (w.heap.size + 1), ptr w.heap.size], .func (.func 147) #[] #[ptr (w.heap.size + 1 + 1), ptr w.heap.size]] 177)
  have m2 := (AtC.newAt (w := (w.alloc (.cells #[pa Bo i] 184)).alloc (.cells #[fn 80] 193)) (B := w.heap.size + 1 + 1) (C := #[fn 88]) (T := 162) (by simp)).al (.cells #[.bool ((x : Int) != 0), .func (.func 146) #[] #[ptr (w.heap.size + 1), ptr w.heap.size], .func (.func 147) #[] #[ptr (w.heap.size + 1 + 1), ptr w.heap.size]] 177)
  refine ret_row (C := #[.bool ((x : Int) != 0), .func (.func 146) #[] #[ptr (w.heap.size + 1), ptr w.heap.size], .func (.func 147) #[] #[ptr (w.heap.size + 1 + 1), ptr w.heap.size]]) (B := w.heap.size + 1 + 1 + 1) rfl rfl rfl (AtC.newAt (by simp)) (by kernel_rfl) (by kernel_rfl) ?_
  exact ⟨(FDv.mk (by cases x <;> rfl)), m0.c 0, m1.c 0, m2.c 0, hbb⟩
set_option maxHeartbeats 2000000 in
theorem small_any (Bo i : Nat) (x : Nat) (w : World) (c3 : w.cell? ⟨Bo, i, none⟩ = some (.int .u8 (x : Int))) :
    Calls Tryz.prog 135 #[pa Bo i] w fun e w' => ∃ b0 b1 b2, FDv (decide (x ≠ 0)) 146 147 b0 b1 b2 e ∧ w.heap.size ≤ b0 ∧ w.heap.size ≤ b1 ∧ w.heap.size ≤ b2 ∧
      w'.cell? ⟨b0, 0, none⟩ = some (pa Bo i) ∧ w'.cell? ⟨b1, 0, none⟩ = some (fn 80) ∧ w'.cell? ⟨b2, 0, none⟩ = some (fn 88) ∧ Below w.heap.size w w' := by
  have hlt : Bo < w.heap.size := World.block_lt_of_cell? _ _ c3
  have hb := bAl (Below.refl w.heap.size w) (.cells #[.bool false, .nilFunc, .nilFunc] 177)
  have mR := AtC.new w #[.bool false, .nilFunc, .nilFunc] 177
  have C := Lib.hid (part_n Bo i x _ ((hb.cell hlt).trans c3))
  have HB := Lib.hid hb
  clear hb
  generalize hZ : (decide (x ≠ 0)) = z at *
  clear hZ
  go_enter Tryz.func135, Tryz.ntmps135
  go_wp2_with (go_at_call 139; ((refine C.out.mono ?_); rintro e w1 ⟨⟨⟩, d0, d1, d2, k1⟩; have mT := mR.then k1; have mTc := mT.c; have mTf := mT.f; have mTl := mT.lt; have D := Lib.hid (And.intro d0 (And.intro d1 (And.intro d2 k1))); clear d0 d1 d2 k1))
  obtain ⟨d0, d1, d2, k1⟩ := D.out
  simp only [World.size_alloc] at d0 d1 d2
  have nx : ∀ (b : Nat) (u1 u2 u3 : Value), w.heap.size < b → (((w1.setCell ⟨w.heap.size, 0, none⟩ u1).setCell ⟨w.heap.size, 1, none⟩ u2).setCell ⟨w.heap.size, 2, none⟩ u3).cell? ⟨b, 0, none⟩ = w1.cell? ⟨b, 0, none⟩ := fun b u1 u2 u3 hb => by
    have n : ∀ i, (⟨w.heap.size, i, none⟩ : Addr) ≠ ⟨b, 0, none⟩ := fun i x => by injection x with x1; omega
    rw [World.cell?_setCell_other (h := n 2), World.cell?_setCell_other (h := n 1), World.cell?_setCell_other (h := n 0)]
  refine ret_row (C := #[.bool z, .func (.func 146) #[] #[ptr (w.heap.size + 1 + 1), ptr (w.heap.size + 1)], .func (.func 147) #[] #[ptr (w.heap.size + 1 + 1 + 1), ptr (w.heap.size + 1)]]) (B := w.heap.size) rfl rfl rfl (((mT.set (i := 0) (by simp) _).set (i := 1) (by simp) _).set (i := 2) (by simp) _) (by kernel_rfl) (by kernel_rfl) ?_
  exact ⟨_, _, _, .mk', by omega, by omega, by omega, (nx _ _ _ _ (by omega)).trans d0, (nx _ _ _ _ (by omega)).trans d1, (nx _ _ _ _ (by omega)).trans d2, bStore (bStore (bStore (bThen HB.out k1) (Nat.le_refl _) _) (Nat.le_refl _) _) (Nat.le_refl _) _⟩
set_option maxHeartbeats 2000000 in
theorem put_i (Bw bp bq Bo i : Nat) (x : Int) (hx : -9223372036854775808 ≤ x ∧ x < 9223372036854775808) (s : Option Bs) (w : World) (h : WAt w Bw s) (c1 : w.cell? ⟨bq, 0, none⟩ = some (fn 85)) (c2 : w.cell? ⟨bp, 0, none⟩ = some (pa Bo i)) (c3 : w.cell? ⟨Bo, i, none⟩ = some (.int .i64 x)) :
    Calls Tryz.prog 148 #[ptr Bw, ptr bq, ptr bp] w fun e w' => Wrt w Bw (addW s (numB (intN x))) e w' := by
  have D : Hid (Calls Tryz.prog 85 #[ptr Bw, .int .i64 x] w.drew fun e w' => Wrt w Bw (addW s (numB (intN x))) e w') := Lib.hid ((YX.wInt_any (ptr Bw) s x hx.1 hx.2 w.drew (wpt (h.below (YX.bD1_ w)))).mono (fun e w' q => wrt_pre q (YX.bD1_ w)))
  clear h
  go_enter Tryz.func148, Tryz.ntmps148
  go_region_with (go_at_call 85; ((refine D.out.mono ?_); rintro e w1 ⟨rfl, q2, q3⟩; have H1 := Lib.hid (And.intro q2 q3); clear q2 q3))
  all_goals
    first | go_end0 | (refine bodyPost_ret (results_none rfl _ _ _) rfl ?_)
    exact ⟨rfl, H1.out.1, H1.out.2⟩
set_option maxHeartbeats 2000000 in
theorem get_i (Br bp bq Bo i : Nat) (s : Option Bs) (C : Array Value) (w : World) (h : RAt w Br s) (c1 : w.cell? ⟨bq, 0, none⟩ = some (fn 92)) (c2 : w.cell? ⟨bp, 0, none⟩ = some (pa Bo i)) (hC : AtC w Bo C) (hi : i < C.size) (h1 : Br < Bo) (h2 : bp ≠ Br) :
    Calls Tryz.prog 149 #[ptr Br, ptr bq, ptr bp] w fun e w' => e = .returned (.tuple #[]) ∧ RAt w' Br (rest rdI s) ∧ AtC w' Bo (C.setIfInBounds i (.int .i64 (told (0 : Int) rdI s))) ∧ Kept w w' (fun j => j ≠ Br ∧ j ≠ Bo) := by
  have D : Hid (Calls Tryz.prog 92 #[ptr Br] w.drew fun e w' => e = .returned (.int .i64 (told (0 : Int) rdI s)) ∧ RAt w' Br (rest rdI s) ∧ Kept w w' (· ≠ Br)) := Lib.hid ((YX.signed_any2 Br s w.drew (h.below (YX.bD1_ w))).mono (fun e w' ⟨a, b, c⟩ => ⟨a, b, Kept.trans (.of_below (YX.bD1_ w)) c⟩))
  have HC := Lib.hid hC
  have HP : Hid (∀ W, Kept w W (· ≠ Br) → W.cell? ⟨bp, 0, none⟩ = some (pa Bo i)) := Lib.hid (fun W k => (k.cell (World.block_lt_of_cell? _ _ c2) h2).trans c2)
  have hne : Bo ≠ Br := by omega
  clear h hC
  go_enter Tryz.func149, Tryz.ntmps149
  go_region_with (go_at_call 92; ((refine D.out.mono ?_); rintro e w1 ⟨rfl, q2, q3⟩; have cP := HP.out w1 q3; have m1 := HC.out.kept q3 hne; have m1c := m1.c; have m1f := m1.f; have m1l := m1.lt; have H1 := Lib.hid (And.intro q2 q3); clear q2 q3))
  all_goals
    first | go_end0 | (refine bodyPost_ret (results_none rfl _ _ _) rfl ?_)
    exact ⟨rfl, H1.out.1.other (B2 := Bo) ((Kept.refl _ _).set (B := Bo) (fun _ q => q rfl) _) h1, m1.set hi _, ((H1.out.2.weak (fun j q => q.1)).set (B := Bo) (fun _ q => q.2 rfl) _)⟩
set_option maxHeartbeats 2000000 in
theorem part_i (Bo i : Nat) (x : Int) (w : World) (c3 : w.cell? ⟨Bo, i, none⟩ = some (.int .i64 x)) :
    Calls Tryz.prog 140 #[pa Bo i, fn 85, fn 92] w fun e w' => FDv (decide (x ≠ 0)) 148 149 w.heap.size (w.heap.size + 1) (w.heap.size + 1 + 1) e ∧
      w'.cell? ⟨w.heap.size, 0, none⟩ = some (pa Bo i) ∧ w'.cell? ⟨w.heap.size + 1, 0, none⟩ = some (fn 85) ∧ w'.cell? ⟨w.heap.size + 1 + 1, 0, none⟩ = some (fn 92) ∧ Below w.heap.size w w' := by
  have hlt : Bo < w.heap.size := World.block_lt_of_cell? _ _ c3
  have c4 : ((((w.alloc (.cells #[pa Bo i] 186)).alloc (.cells #[fn 85] 195)).alloc (.cells #[fn 92] 166)).alloc (.cells #[.bool false, .nilFunc, .nilFunc] 177)).cell? ⟨Bo, i, none⟩ = some (.int .i64 x) :=
    ((bAl (bAl (bAl (bAl (Below.refl w.heap.size w) _) _) _) _).cell hlt).trans c3
  go_enter Tryz.func140, Tryz.ntmps140
  go_wp2
  have hbb : Below w.heap.size w _ := bAl (bAl (bAl (bAl (Below.refl w.heap.size w) (.cells #[pa Bo i] 186)) (.cells #[fn 85] 195)) (.cells #[fn 92] 166)) (.cells #[.bool (x != 0), .func (.func 148) #[] #[ptr (w.heap.size + 1), ptr w.heap.size], .func (.func 149) #[] #[ptr (w.heap.size + 1 + 1), ptr w.heap.size]] 177)
  have m0 := (((AtC.new w #[pa Bo i] 186).al (.cells #[fn 85] 195)).al (.cells #[fn 92] 166)).al (.cells #[.bool (x != 0), .func (.func 148) #[] #[ptr (w.heap.size + 1), ptr w.heap.size], .func (.func 149) #[] #[ptr (w.heap.size + 1 + 1), ptr w.heap.size]] 177)
  have m1 := ((AtC.newAt (w := w.alloc (.cells #[pa Bo i] 186)) (B := w.heap.size + 1) (C := #[fn 85]) (T := 195) (by simp)).al (.cells #[fn 92] 166)).al (.cells #[.bool (x != 0), .func (.func 148) #[] #[ptr (w.heap.size + 1), ptr w.heap.size], .func (.func 149) #[] #[ptr (w.heap.size + 1 + 1), ptr w.heap.size]] 177)
  have m2 := (AtC.newAt (w := (w.alloc (.cells #[pa Bo i] 186)).alloc (.cells #[fn 85] 195)) (B := w.heap.size + 1 + 1) (C := #[fn 92]) (T := 166) (by simp)).al (.cells #[.bool (x != 0), .func (.func 148) #[] #[ptr (w.heap.size + 1), ptr w.heap.size], .func (.func 149) #[] #[ptr (w.heap.size + 1 + 1), ptr w.heap.size]] 177)
  refine ret_row (C := #[.bool (x != 0), .func (.func 148) #[] #[ptr (w.heap.size + 1), ptr w.heap.size], .func (.func 149) #[] #[ptr (w.heap.size + 1 + 1), ptr w.heap.size]]) (B := w.heap.size + 1 + 1 + 1) rfl rfl rfl (AtC.newAt (by simp)) (by kernel_rfl) (by kernel_rfl) ?_
  exact ⟨(FDv.mk (by by_cases h : x = 0 <;> simp [h])), m0.c 0, m1.c 0, m2.c 0, hbb⟩
set_option maxHeartbeats 2000000 in
theorem number_any (Bo i : Nat) (x : Int) (w : World) (c3 : w.cell? ⟨Bo, i, none⟩ = some (.int .i64 x)) :
    Calls Tryz.prog 136 #[pa Bo i] w fun e w' => ∃ b0 b1 b2, FDv (decide (x ≠ 0)) 148 149 b0 b1 b2 e ∧ w.heap.size ≤ b0 ∧ w.heap.size ≤ b1 ∧ w.heap.size ≤ b2 ∧
      w'.cell? ⟨b0, 0, none⟩ = some (pa Bo i) ∧ w'.cell? ⟨b1, 0, none⟩ = some (fn 85) ∧ w'.cell? ⟨b2, 0, none⟩ = some (fn 92) ∧ Below w.heap.size w w' := by
  have hlt : Bo < w.heap.size := World.block_lt_of_cell? _ _ c3
  have hb := bAl (Below.refl w.heap.size w) (.cells #[.bool false, .nilFunc, .nilFunc] 177)
  have mR := AtC.new w #[.bool false, .nilFunc, .nilFunc] 177
  have C := Lib.hid (part_i Bo i x _ ((hb.cell hlt).trans c3))
  have HB := Lib.hid hb
  clear hb
  generalize hZ : (decide (x ≠ 0)) = z at *
  clear hZ
  go_enter Tryz.func136, Tryz.ntmps136
  go_wp2_with (go_at_call 140; ((refine C.out.mono ?_); rintro e w1 ⟨⟨⟩, d0, d1, d2, k1⟩; have mT := mR.then k1; have mTc := mT.c; have mTf := mT.f; have mTl := mT.lt; have D := Lib.hid (And.intro d0 (And.intro d1 (And.intro d2 k1))); clear d0 d1 d2 k1))
  obtain ⟨d0, d1, d2, k1⟩ := D.out
  simp only [World.size_alloc] at d0 d1 d2
  have nx : ∀ (b : Nat) (u1 u2 u3 : Value), w.heap.size < b → (((w1.setCell ⟨w.heap.size, 0, none⟩ u1).setCell ⟨w.heap.size, 1, none⟩ u2).setCell ⟨w.heap.size, 2, none⟩ u3).cell? ⟨b, 0, none⟩ = w1.cell? ⟨b, 0, none⟩ := fun b u1 u2 u3 hb => by
    have n : ∀ i, (⟨w.heap.size, i, none⟩ : Addr) ≠ ⟨b, 0, none⟩ := fun i x => by injection x with x1; omega
    rw [World.cell?_setCell_other (h := n 2), World.cell?_setCell_other (h := n 1), World.cell?_setCell_other (h := n 0)]
  refine ret_row (C := #[.bool z, .func (.func 148) #[] #[ptr (w.heap.size + 1 + 1), ptr (w.heap.size + 1)], .func (.func 149) #[] #[ptr (w.heap.size + 1 + 1 + 1), ptr (w.heap.size + 1)]]) (B := w.heap.size) rfl rfl rfl (((mT.set (i := 0) (by simp) _).set (i := 1) (by simp) _).set (i := 2) (by simp) _) (by kernel_rfl) (by kernel_rfl) ?_
  exact ⟨_, _, _, .mk', by omega, by omega, by omega, (nx _ _ _ _ (by omega)).trans d0, (nx _ _ _ _ (by omega)).trans d1, (nx _ _ _ _ (by omega)).trans d2, bStore (bStore (bStore (bThen HB.out k1) (Nat.le_refl _) _) (Nat.le_refl _) _) (Nat.le_refl _) _⟩
set_option maxHeartbeats 2000000 in
theorem put_b (Bw bp bq Bo i : Nat) (x : Bool)  (s : Option Bs) (w : World) (h : WAt w Bw s) (c1 : w.cell? ⟨bq, 0, none⟩ = some (fn 142)) (c2 : w.cell? ⟨bp, 0, none⟩ = some (pa Bo i)) (c3 : w.cell? ⟨Bo, i, none⟩ = some (.bool x)) :
    Calls Tryz.prog 150 #[ptr Bw, ptr bq, ptr bp] w fun e w' => Wrt w Bw s e w' := by
  have D : Hid (Calls Tryz.prog 142 #[ptr Bw, .bool x] w.drew fun e w' => Wrt w Bw s e w') := Lib.hid ((flag_put _ _ _).mono (fun e w' ⟨a, b⟩ => ⟨a, b ▸ h.below (YX.bD1_ w), b ▸ .of_below (YX.bD1_ w)⟩))
  clear h
  go_enter Tryz.func150, Tryz.ntmps150
  go_region_with (go_at_call 142; ((refine D.out.mono ?_); rintro e w1 ⟨rfl, q2, q3⟩; have H1 := Lib.hid (And.intro q2 q3); clear q2 q3))
  all_goals
    first | go_end0 | (refine bodyPost_ret (results_none rfl _ _ _) rfl ?_)
    exact ⟨rfl, H1.out.1, H1.out.2⟩
set_option maxHeartbeats 2000000 in
theorem get_b (Br bp bq Bo i : Nat) (s : Option Bs) (C : Array Value) (w : World) (h : RAt w Br s) (c1 : w.cell? ⟨bq, 0, none⟩ = some (fn 143)) (c2 : w.cell? ⟨bp, 0, none⟩ = some (pa Bo i)) (hC : AtC w Bo C) (hi : i < C.size) (h1 : Br < Bo) (h2 : bp ≠ Br) :
    Calls Tryz.prog 151 #[ptr Br, ptr bq, ptr bp] w fun e w' => e = .returned (.tuple #[]) ∧ RAt w' Br s ∧ AtC w' Bo (C.setIfInBounds i (.bool true)) ∧ Kept w w' (fun j => j ≠ Br ∧ j ≠ Bo) := by
  have D : Hid (Calls Tryz.prog 143 #[ptr Br] w.drew fun e w' => e = .returned (.bool true) ∧ RAt w' Br s ∧ Kept w w' (· ≠ Br)) := Lib.hid ((flag_get _ _).mono (fun e w' ⟨a, b⟩ => ⟨a, b ▸ h.below (YX.bD1_ w), b ▸ .of_below (YX.bD1_ w)⟩))
  have HC := Lib.hid hC
  have HP : Hid (∀ W, Kept w W (· ≠ Br) → W.cell? ⟨bp, 0, none⟩ = some (pa Bo i)) := Lib.hid (fun W k => (k.cell (World.block_lt_of_cell? _ _ c2) h2).trans c2)
  have hne : Bo ≠ Br := by omega
  clear h hC
  go_enter Tryz.func151, Tryz.ntmps151
  go_region_with (go_at_call 143; ((refine D.out.mono ?_); rintro e w1 ⟨rfl, q2, q3⟩; have cP := HP.out w1 q3; have m1 := HC.out.kept q3 hne; have m1c := m1.c; have m1f := m1.f; have m1l := m1.lt; have H1 := Lib.hid (And.intro q2 q3); clear q2 q3))
  all_goals
    first | go_end0 | (refine bodyPost_ret (results_none rfl _ _ _) rfl ?_)
    exact ⟨rfl, H1.out.1.other (B2 := Bo) ((Kept.refl _ _).set (B := Bo) (fun _ q => q rfl) _) h1, m1.set hi _, ((H1.out.2.weak (fun j q => q.1)).set (B := Bo) (fun _ q => q.2 rfl) _)⟩
set_option maxHeartbeats 2000000 in
theorem part_b (Bo i : Nat) (x : Bool) (w : World) (c3 : w.cell? ⟨Bo, i, none⟩ = some (.bool x)) :
    Calls Tryz.prog 141 #[pa Bo i, fn 142, fn 143] w fun e w' => FDv (x) 150 151 w.heap.size (w.heap.size + 1) (w.heap.size + 1 + 1) e ∧
      w'.cell? ⟨w.heap.size, 0, none⟩ = some (pa Bo i) ∧ w'.cell? ⟨w.heap.size + 1, 0, none⟩ = some (fn 142) ∧ w'.cell? ⟨w.heap.size + 1 + 1, 0, none⟩ = some (fn 143) ∧ Below w.heap.size w w' := by
  have hlt : Bo < w.heap.size := World.block_lt_of_cell? _ _ c3
  have c4 : ((((w.alloc (.cells #[pa Bo i] 188)).alloc (.cells #[fn 142] 197)).alloc (.cells #[fn 143] 168)).alloc (.cells #[.bool false, .nilFunc, .nilFunc] 177)).cell? ⟨Bo, i, none⟩ = some (.bool x) :=
    ((bAl (bAl (bAl (bAl (Below.refl w.heap.size w) _) _) _) _).cell hlt).trans c3
  go_enter Tryz.func141, Tryz.ntmps141
  go_wp2
  have hbb : Below w.heap.size w _ := bAl (bAl (bAl (bAl (Below.refl w.heap.size w) (.cells #[pa Bo i] 188)) (.cells #[fn 142] 197)) (.cells #[fn 143] 168)) (.cells #[.bool (x), .func (.func 150) #[] #[ptr (w.heap.size + 1), ptr w.heap.size], .func (.func 151) #[] #[ptr (w.heap.size + 1 + 1), ptr w.heap.size]] 177)
  have m0 := (((AtC.new w #[pa Bo i] 188).al (.cells #[fn 142] 197)).al (.cells #[fn 143] 168)).al (.cells #[.bool (x), .func (.func 150) #[] #[ptr (w.heap.size + 1), ptr w.heap.size], .func (.func 151) #[] #[ptr (w.heap.size + 1 + 1), ptr w.heap.size]] 177)
  have m1 := ((AtC.newAt (w := w.alloc (.cells #[pa Bo i] 188)) (B := w.heap.size + 1) (C := #[fn 142]) (T := 197) (by simp)).al (.cells #[fn 143] 168)).al (.cells #[.bool (x), .func (.func 150) #[] #[ptr (w.heap.size + 1), ptr w.heap.size], .func (.func 151) #[] #[ptr (w.heap.size + 1 + 1), ptr w.heap.size]] 177)
  have m2 := (AtC.newAt (w := (w.alloc (.cells #[pa Bo i] 188)).alloc (.cells #[fn 142] 197)) (B := w.heap.size + 1 + 1) (C := #[fn 143]) (T := 168) (by simp)).al (.cells #[.bool (x), .func (.func 150) #[] #[ptr (w.heap.size + 1), ptr w.heap.size], .func (.func 151) #[] #[ptr (w.heap.size + 1 + 1), ptr w.heap.size]] 177)
  refine ret_row (C := #[.bool (x), .func (.func 150) #[] #[ptr (w.heap.size + 1), ptr w.heap.size], .func (.func 151) #[] #[ptr (w.heap.size + 1 + 1), ptr w.heap.size]]) (B := w.heap.size + 1 + 1 + 1) rfl rfl rfl (AtC.newAt (by simp)) (by kernel_rfl) (by kernel_rfl) ?_
  exact ⟨(FDv.mk (rfl)), m0.c 0, m1.c 0, m2.c 0, hbb⟩
set_option maxHeartbeats 2000000 in
theorem flag_any (Bo i : Nat) (x : Bool) (w : World) (c3 : w.cell? ⟨Bo, i, none⟩ = some (.bool x)) :
    Calls Tryz.prog 137 #[pa Bo i] w fun e w' => ∃ b0 b1 b2, FDv (x) 150 151 b0 b1 b2 e ∧ w.heap.size ≤ b0 ∧ w.heap.size ≤ b1 ∧ w.heap.size ≤ b2 ∧
      w'.cell? ⟨b0, 0, none⟩ = some (pa Bo i) ∧ w'.cell? ⟨b1, 0, none⟩ = some (fn 142) ∧ w'.cell? ⟨b2, 0, none⟩ = some (fn 143) ∧ Below w.heap.size w w' := by
  have hlt : Bo < w.heap.size := World.block_lt_of_cell? _ _ c3
  have hb := bAl (Below.refl w.heap.size w) (.cells #[.bool false, .nilFunc, .nilFunc] 177)
  have mR := AtC.new w #[.bool false, .nilFunc, .nilFunc] 177
  have C := Lib.hid (part_b Bo i x _ ((hb.cell hlt).trans c3))
  have HB := Lib.hid hb
  clear hb
  generalize hZ : (x) = z at *
  clear hZ
  go_enter Tryz.func137, Tryz.ntmps137
  go_wp2_with (go_at_call 141; ((refine C.out.mono ?_); rintro e w1 ⟨⟨⟩, d0, d1, d2, k1⟩; have mT := mR.then k1; have mTc := mT.c; have mTf := mT.f; have mTl := mT.lt; have D := Lib.hid (And.intro d0 (And.intro d1 (And.intro d2 k1))); clear d0 d1 d2 k1))
  obtain ⟨d0, d1, d2, k1⟩ := D.out
  simp only [World.size_alloc] at d0 d1 d2
  have nx : ∀ (b : Nat) (u1 u2 u3 : Value), w.heap.size < b → (((w1.setCell ⟨w.heap.size, 0, none⟩ u1).setCell ⟨w.heap.size, 1, none⟩ u2).setCell ⟨w.heap.size, 2, none⟩ u3).cell? ⟨b, 0, none⟩ = w1.cell? ⟨b, 0, none⟩ := fun b u1 u2 u3 hb => by
    have n : ∀ i, (⟨w.heap.size, i, none⟩ : Addr) ≠ ⟨b, 0, none⟩ := fun i x => by injection x with x1; omega
    rw [World.cell?_setCell_other (h := n 2), World.cell?_setCell_other (h := n 1), World.cell?_setCell_other (h := n 0)]
  refine ret_row (C := #[.bool z, .func (.func 150) #[] #[ptr (w.heap.size + 1 + 1), ptr (w.heap.size + 1)], .func (.func 151) #[] #[ptr (w.heap.size + 1 + 1 + 1), ptr (w.heap.size + 1)]]) (B := w.heap.size) rfl rfl rfl (((mT.set (i := 0) (by simp) _).set (i := 1) (by simp) _).set (i := 2) (by simp) _) (by kernel_rfl) (by kernel_rfl) ?_
  exact ⟨_, _, _, .mk', by omega, by omega, by omega, (nx _ _ _ _ (by omega)).trans d0, (nx _ _ _ _ (by omega)).trans d1, (nx _ _ _ _ (by omega)).trans d2, bStore (bStore (bStore (bThen HB.out k1) (Nat.le_refl _) _) (Nat.le_refl _) _) (Nat.le_refl _) _⟩
end Go.Proofs.YtjocbokfdfdkeaaGreat.PX
