/-
  WALK: getReply.
-/
import Derived.Test.YtjocbokfdfdkeaaGreatLZLGetR
import Derived.Test.YtjocbokfdfdkeaaGreatLZ7
import Derived.Test.YtjocbokfdfdkeaaGreatLZLPutP
namespace Go.Proofs.YtjocbokfdfdkeaaGreat.PX
open Go.RowKit HL
open IX (ptr El cellsK cellsK_at cellsK_len OwnK RdK Kept strK)
open YX (numB rdU rdB rdT rdS rdI addW intN natI rest told WAt WPt Wr RAt vS vU vI u8K Got)
open DX (Ch ch chCells chK zeroCh)
set_option maxRecDepth 100000
set_option linter.unusedVariables false
set_option linter.unusedSimpArgs false

/-- A reply as it is read. -/
def getY (s : Option Bs) : Rp × Option Bs :=
  let s1 := rest rdB s
  let s2 := rest rdI s1
  let s3 := rest rdI s2
  let q4 := getF codE s3
  let q5 := getR q4.2
  (⟨told (0 : Int) rdI s1, told (0 : Int) rdI s2, q4.1, q5.1.1, q5.1.2.1, q5.1.2.2, told (0 : Nat) rdB q5.2⟩, rest rdB q5.2)
/-- What getReply tells. -/
def Ry (w : World) (Br : Nat) (q : Rp × Option Bs) (e : Ending) (w' : World) : Prop := ∃ A c A2 c2, e = .returned (rl q.1 A q.1.es.length c A2 q.1.cs.length c2) ∧ OwnK enK w' w.heap.size (.slice A q.1.es.length c) q.1.es ∧ OwnK chK w' w.heap.size (.slice A2 q.1.cs.length c2) q.1.cs ∧ RAt w' Br q.2 ∧ Kept w w' (· ≠ Br)
set_option maxHeartbeats 8000000 in
theorem getReply_any (Br : Nat) (s : Option Bs) (w : World) (hr : RAt w Br s) :
    Calls Tryz.prog 69 #[ptr Br] w fun e w' => Ry w Br (getY s) e w' := by
  have hBr := hr.lt
  obtain ⟨Z, hZ⟩ : ∃ Z : Array Value, Z = #[.int .i64 0, .int .i64 0, .slice none 0 0, .int .i64 0, .slice none 0 0, .bool false, .int .u8 0] := ⟨_, rfl⟩
  have hb := bAl (bAl (Below.refl w.heap.size w) (.cells #[.int .i64 0, .int .i64 0, .slice none 0 0, .int .i64 0, .slice none 0 0, .bool false, .int .u8 0] 36)) (.cells #[.int .i64 0, .int .i64 0, .slice none 0 0, .int .i64 0, .slice none 0 0, .bool false, .int .u8 0] 36)
  have R0 := Lib.hid (hr.below hb)
  have M0 : Hid (AtC ((w.alloc (.cells #[.int .i64 0, .int .i64 0, .slice none 0 0, .int .i64 0, .slice none 0 0, .bool false, .int .u8 0] 36)).alloc (.cells #[.int .i64 0, .int .i64 0, .slice none 0 0, .int .i64 0, .slice none 0 0, .bool false, .int .u8 0] 36)) w.heap.size #[.int .i64 0, .int .i64 0, .slice none 0 0, .int .i64 0, .slice none 0 0, .bool false, .int .u8 0]) := Lib.hid ((AtC.new w #[.int .i64 0, .int .i64 0, .slice none 0 0, .int .i64 0, .slice none 0 0, .bool false, .int .u8 0] 36).al (.cells #[.int .i64 0, .int .i64 0, .slice none 0 0, .int .i64 0, .slice none 0 0, .bool false, .int .u8 0] 36))
  have N0 : Hid (AtC ((w.alloc (.cells #[.int .i64 0, .int .i64 0, .slice none 0 0, .int .i64 0, .slice none 0 0, .bool false, .int .u8 0] 36)).alloc (.cells #[.int .i64 0, .int .i64 0, .slice none 0 0, .int .i64 0, .slice none 0 0, .bool false, .int .u8 0] 36)) (w.heap.size + 1) #[.int .i64 0, .int .i64 0, .slice none 0 0, .int .i64 0, .slice none 0 0, .bool false, .int .u8 0]) := Lib.hid (AtC.newAt (by simp))
  have K0 : Hid (Kept w ((w.alloc (.cells #[.int .i64 0, .int .i64 0, .slice none 0 0, .int .i64 0, .slice none 0 0, .bool false, .int .u8 0] 36)).alloc (.cells #[.int .i64 0, .int .i64 0, .slice none 0 0, .int .i64 0, .slice none 0 0, .bool false, .int .u8 0] 36)) (· ≠ Br)) := Lib.hid (.of_below hb)
  have S0 : Hid (w.heap.size + 2 ≤ ((w.alloc (.cells #[.int .i64 0, .int .i64 0, .slice none 0 0, .int .i64 0, .slice none 0 0, .bool false, .int .u8 0] 36)).alloc (.cells #[.int .i64 0, .int .i64 0, .slice none 0 0, .int .i64 0, .slice none 0 0, .bool false, .int .u8 0] 36)).heap.size) := Lib.hid (by simp)
  obtain ⟨s1, hs1⟩ : ∃ x, rest rdB s = x := ⟨_, rfl⟩
  obtain ⟨x2, hx2⟩ : ∃ x, told (0 : Int) rdI s1 = x := ⟨_, rfl⟩
  obtain ⟨s2, hs2⟩ : ∃ x, rest rdI s1 = x := ⟨_, rfl⟩
  obtain ⟨x3, hx3⟩ : ∃ x, told (0 : Int) rdI s2 = x := ⟨_, rfl⟩
  obtain ⟨s3, hs3⟩ : ∃ x, rest rdI s2 = x := ⟨_, rfl⟩
  obtain ⟨⟨l4, s4⟩, hx4⟩ : ∃ q, getF codE s3 = q := ⟨_, rfl⟩
  obtain ⟨⟨⟨x5, l5, g5⟩, s5⟩, hx5⟩ : ∃ q, getR s4 = q := ⟨_, rfl⟩
  obtain ⟨x6, hx6⟩ : ∃ x, told (0 : Nat) rdB s5 = x := ⟨_, rfl⟩
  obtain ⟨s6, hs6⟩ : ∃ x, rest rdB s5 = x := ⟨_, rfl⟩
  have HQ : Hid (getY s = (⟨x2, x3, l4, x5, l5, g5, x6⟩, s6)) := Lib.hid (by unfold getY; simp only [hs1, hx2, hs2, hx3, hs3, hx4, hx5, hx6, hs6])
  have C1 : Hid (∀ W, RAt W Br s → Calls Tryz.prog 88 #[ptr Br] W fun e w' => ∃ v, e = .returned v ∧ RAt w' Br s1 ∧ Kept W w' (· ≠ Br)) := Lib.hid (fun W q => by have h := YX.octet_any2 Br s W q; rw [hs1] at h; exact h.mono fun e w' q => ⟨_, q⟩)
  have C2 : Hid (∀ W, RAt W Br s1 → Calls Tryz.prog 92 #[ptr Br] W fun e w' => e = .returned (.int .i64 x2) ∧ RAt w' Br s2 ∧ Kept W w' (· ≠ Br)) := Lib.hid (fun W q => by have h := YX.signed_any2 Br s1 W q; simp only [hs2, hx2] at h; exact h)
  have C3 : Hid (∀ W, RAt W Br s2 → Calls Tryz.prog 92 #[ptr Br] W fun e w' => e = .returned (.int .i64 x3) ∧ RAt w' Br s3 ∧ Kept W w' (· ≠ Br)) := Lib.hid (fun W q => by have h := YX.signed_any2 Br s2 W q; simp only [hs3, hx3] at h; exact h)
  have C4 : Hid (∀ W, RAt W Br s3 → Calls Tryz.prog 100 #[fm 121 122, ptr Br] W fun e w' => Lg enK W Br (l4, s4) e w') := Lib.hid (fun W q => by have h := getListE_any Br s3 121 W q; rw [hx4] at h; exact h)
  have CC := Lib.hid entries_any
  have C5 : Hid (∀ W, RAt W Br s4 → Calls Tryz.prog 71 #[ptr Br] W fun e w' => Rr W Br ((x5, l5, g5), s5) e w') := Lib.hid (fun W q => by have h := getReport_any Br s4 W q; rw [hx5] at h; exact h)
  have C6 : Hid (∀ W, RAt W Br s5 → Calls Tryz.prog 88 #[ptr Br] W fun e w' => e = .returned (.int .u8 (x6 : Nat)) ∧ RAt w' Br s6 ∧ Kept W w' (· ≠ Br)) := Lib.hid (fun W q => by have h := YX.octet_any2 Br s5 W q; simp only [hs6, hx6] at h; exact h)
  clear hr hb hs1 hx2 hs2 hx3 hs3 hx4 hx5 hx6 hs6
  go_enter Tryz.func69, Tryz.ntmps69
  go_upto_region 2 with fail
  change Code.wp _ _ _ _ ((w.alloc (.cells #[.int .i64 0, .int .i64 0, .slice none 0 0, .int .i64 0, .slice none 0 0, .bool false, .int .u8 0] 36)).alloc (.cells #[.int .i64 0, .int .i64 0, .slice none 0 0, .int .i64 0, .slice none 0 0, .bool false, .int .u8 0] 36))
  generalize ((w.alloc (.cells #[.int .i64 0, .int .i64 0, .slice none 0 0, .int .i64 0, .slice none 0 0, .bool false, .int .u8 0] 36)).alloc (.cells #[.int .i64 0, .int .i64 0, .slice none 0 0, .int .i64 0, .slice none 0 0, .bool false, .int .u8 0] 36)) = W0 at *
  go_upto_region 3 with (go_at_call 88; ((refine (C1.out _ R0.out).mono ?_); rintro e W1 ⟨v, rfl, r, k⟩; have R1 := Lib.hid r; have N1 := Lib.hid (N0.out.kept k (show w.heap.size + 1 ≠ Br by omega)); have M1 := Lib.hid (M0.out.kept k (show w.heap.size ≠ Br by omega)); have K1 := Lib.hid (K0.out.trans k); have S1 := Lib.hid (Nat.le_trans S0.out k.size); clear r k))
  clear R0 N0 M0 K0 S0 C1
  go_upto_region 4 with (go_at_call 92; ((refine (C2.out _ R1.out).mono ?_); rintro e wb ⟨rfl, r, k⟩; have n4 := N1.out.kept k (show w.heap.size + 1 ≠ Br by omega); have n4c := n4.c; have n4f := n4.f; have n4l := n4.lt; have RT := Lib.hid r; have KL := Lib.hid k; clear r k))
  have R2 := Lib.hid (RT.out.other (B2 := w.heap.size + 1) (kept_stC (fun _ h => h rfl) [.int .i64 x2] 0 wb (Kept.refl _ _)) (by omega))
  have N2 : Hid (AtC (wb.setCell ⟨w.heap.size + 1, 0, none⟩ (.int .i64 x2)) (w.heap.size + 1) #[.int .i64 x2, .int .i64 0, .slice none 0 0, .int .i64 0, .slice none 0 0, .bool false, .int .u8 0]) := Lib.hid (at_mid [.int .i64 x2] [] [.int .i64 0] [.int .i64 0, .slice none 0 0, .int .i64 0, .slice none 0 0, .bool false, .int .u8 0] wb n4 rfl)
  have K2 := Lib.hid (kept_stC (w := w) (P := (· ≠ Br)) (B := w.heap.size + 1) (fun h => absurd h (by omega)) [.int .i64 x2] 0 wb (K1.out.trans KL.out))
  have M2 := Lib.hid (at_store [.int .i64 x2] 0 wb _ (show w.heap.size ≠ w.heap.size + 1 by omega) (M1.out.kept KL.out (show w.heap.size ≠ Br by omega)))
  have S2 := Lib.hid (Nat.le_trans (Nat.le_trans S1.out KL.out.size) (kept_stC (P := (· ≠ w.heap.size + 1)) (fun _ h => h rfl) [.int .i64 x2] 0 wb (Kept.refl wb _)).size)
  clear n4 n4c n4f n4l RT KL R1 N1 M1 K1 S1 C2
  change Code.wp _ _ _ _ (wb.setCell ⟨w.heap.size + 1, 0, none⟩ (.int .i64 x2))
  try dsimp only [stC] at R2
  try dsimp only [stC] at K2
  try dsimp only [stC] at M2
  try dsimp only [stC] at S2
  generalize wb.setCell ⟨w.heap.size + 1, 0, none⟩ (.int .i64 x2) = W2 at *
  go_upto_region 5 with (go_at_call 92; ((refine (C3.out _ R2.out).mono ?_); rintro e wb ⟨rfl, r, k⟩; have n4 := N2.out.kept k (show w.heap.size + 1 ≠ Br by omega); have n4c := n4.c; have n4f := n4.f; have n4l := n4.lt; have RT := Lib.hid r; have KL := Lib.hid k; clear r k))
  have R3 := Lib.hid (RT.out.other (B2 := w.heap.size + 1) (kept_stC (fun _ h => h rfl) [.int .i64 x3] 1 wb (Kept.refl _ _)) (by omega))
  have N3 : Hid (AtC (wb.setCell ⟨w.heap.size + 1, 1, none⟩ (.int .i64 x3)) (w.heap.size + 1) #[.int .i64 x2, .int .i64 x3, .slice none 0 0, .int .i64 0, .slice none 0 0, .bool false, .int .u8 0]) := Lib.hid (at_mid [.int .i64 x3] [.int .i64 x2] [.int .i64 0] [.slice none 0 0, .int .i64 0, .slice none 0 0, .bool false, .int .u8 0] wb n4 rfl)
  have K3 := Lib.hid (kept_stC (w := w) (P := (· ≠ Br)) (B := w.heap.size + 1) (fun h => absurd h (by omega)) [.int .i64 x3] 1 wb (K2.out.trans KL.out))
  have M3 := Lib.hid (at_store [.int .i64 x3] 1 wb _ (show w.heap.size ≠ w.heap.size + 1 by omega) (M2.out.kept KL.out (show w.heap.size ≠ Br by omega)))
  have S3 := Lib.hid (Nat.le_trans (Nat.le_trans S2.out KL.out.size) (kept_stC (P := (· ≠ w.heap.size + 1)) (fun _ h => h rfl) [.int .i64 x3] 1 wb (Kept.refl wb _)).size)
  clear n4 n4c n4f n4l RT KL R2 N2 M2 K2 S2 C3
  change Code.wp _ _ _ _ (wb.setCell ⟨w.heap.size + 1, 1, none⟩ (.int .i64 x3))
  try dsimp only [stC] at R3
  try dsimp only [stC] at K3
  try dsimp only [stC] at M3
  try dsimp only [stC] at S3
  generalize wb.setCell ⟨w.heap.size + 1, 1, none⟩ (.int .i64 x3) = W3 at *
  go_upto_region 6 with (first
    | (go_at_call 98; (with_reducible refine (CC.out _).mono ?_); rintro e wa ⟨rfl, k3⟩; have B3 : Hid (Below W3.heap.size W3 wa) := Lib.hid k3; have kC : Kept W3 wa (· ≠ Br) := .of_below B3.out; clear k3)
    | (go_at_call 100; (refine (C4.out _ (R3.out.below B3.out)).mono ?_); rintro e wb ⟨v, rfl, o4, r4, k4⟩; have KL : Hid (Kept W3 wb (· ≠ Br)) := Lib.hid (kC.trans k4); have OT := Lib.hid (o4.base (Nat.le_trans S3.out B3.out.size)); obtain ⟨A4, c4, rfl, _, _⟩ := o4.form; have n4 := N3.out.kept KL.out (show w.heap.size + 1 ≠ Br by omega); have n4c := n4.c 2; have n4f := n4.f; have n4l := n4.lt; have RT := Lib.hid r4; clear r4 k4 o4 kC))
  have R4 := Lib.hid (RT.out.other (B2 := w.heap.size + 1) (kept_stC (fun _ h => h rfl) [.slice A4 l4.length c4] 2 wb (Kept.refl _ _)) (by omega))
  have N4 : Hid (AtC (wb.setCell ⟨w.heap.size + 1, 2, none⟩ (.slice A4 l4.length c4)) (w.heap.size + 1) #[.int .i64 x2, .int .i64 x3, .slice A4 l4.length c4, .int .i64 0, .slice none 0 0, .bool false, .int .u8 0]) := Lib.hid (at_mid [.slice A4 l4.length c4] [.int .i64 x2, .int .i64 x3] [.slice none 0 0] [.int .i64 0, .slice none 0 0, .bool false, .int .u8 0] wb n4 rfl)
  have K4 := Lib.hid (kept_stC (w := w) (P := (· ≠ Br)) (B := w.heap.size + 1) (fun h => absurd h (by omega)) [.slice A4 l4.length c4] 2 wb (K3.out.trans KL.out))
  have M4 := Lib.hid (at_store [.slice A4 l4.length c4] 2 wb _ (show w.heap.size ≠ w.heap.size + 1 by omega) (M3.out.kept KL.out (show w.heap.size ≠ Br by omega)))
  have S4 := Lib.hid (Nat.le_trans (Nat.le_trans S3.out KL.out.size) (kept_stC (P := (· ≠ w.heap.size + 1)) (fun _ h => h rfl) [.slice A4 l4.length c4] 2 wb (Kept.refl wb _)).size)
  have OW4 := Lib.hid (OT.out.kept (kept_stC (fun _ h => h rfl) [.slice A4 l4.length c4] 2 wb (Kept.refl wb (· ≠ w.heap.size + 1))) (fun j e => by have h1 := (OT.out.lt j e).1; show j ≠ w.heap.size + 1; omega))
  clear n4 n4c n4f n4l RT KL CC OT R3 N3 M3 K3 S3 C4
  change Code.wp _ _ _ _ (wb.setCell ⟨w.heap.size + 1, 2, none⟩ (.slice A4 l4.length c4))
  try dsimp only [stC] at R4
  try dsimp only [stC] at K4
  try dsimp only [stC] at M4
  try dsimp only [stC] at S4
  try dsimp only [stC] at OW4
  generalize wb.setCell ⟨w.heap.size + 1, 2, none⟩ (.slice A4 l4.length c4) = W4 at *
  go_upto_region 7 with (go_at_call 71; ((refine (C5.out _ R4.out).mono ?_); rintro e wb ⟨A5, c5, rfl, o4, r, k⟩; have n4 := N4.out.kept k (show w.heap.size + 1 ≠ Br by omega); have n4c := n4.c; have n4f := n4.f; have n4l := n4.lt; have OW5 := Lib.hid (o4.base (Nat.le_trans S4.out (Nat.le_refl _))); have RT := Lib.hid r; have KL := Lib.hid k; clear r k))
  have R5 := Lib.hid (RT.out.other (B2 := w.heap.size + 1) (kept_stC (fun _ h => h rfl) [.int .i64 x5, .slice A5 l5.length c5, .bool g5] 3 wb (Kept.refl _ _)) (by omega))
  have N5 : Hid (AtC (stC wb (w.heap.size + 1) 3 [.int .i64 x5, .slice A5 l5.length c5, .bool g5]) (w.heap.size + 1) #[.int .i64 x2, .int .i64 x3, .slice A4 l4.length c4, .int .i64 x5, .slice A5 l5.length c5, .bool g5, .int .u8 0]) := Lib.hid (at_mid [.int .i64 x5, .slice A5 l5.length c5, .bool g5] [.int .i64 x2, .int .i64 x3, .slice A4 l4.length c4] [.int .i64 0, .slice none 0 0, .bool false] [.int .u8 0] wb n4 rfl)
  have K5 := Lib.hid (kept_stC (w := w) (P := (· ≠ Br)) (B := w.heap.size + 1) (fun h => absurd h (by omega)) [.int .i64 x5, .slice A5 l5.length c5, .bool g5] 3 wb (K4.out.trans KL.out))
  have M5 := Lib.hid (at_store [.int .i64 x5, .slice A5 l5.length c5, .bool g5] 3 wb _ (show w.heap.size ≠ w.heap.size + 1 by omega) (M4.out.kept KL.out (show w.heap.size ≠ Br by omega)))
  have S5 := Lib.hid (Nat.le_trans (Nat.le_trans S4.out KL.out.size) (kept_stC (P := (· ≠ w.heap.size + 1)) (fun _ h => h rfl) [.int .i64 x5, .slice A5 l5.length c5, .bool g5] 3 wb (Kept.refl wb _)).size)
  have OW4 := Lib.hid ((OW4.out.kept KL.out (fun j e => by have h1 := (OW4.out.lt j e).1; show j ≠ Br; omega)).kept (kept_stC (fun _ h => h rfl) [.int .i64 x5, .slice A5 l5.length c5, .bool g5] 3 wb (Kept.refl wb (· ≠ w.heap.size + 1))) (fun j e => by have h1 := (OW4.out.lt j e).1; show j ≠ w.heap.size + 1; omega))
  have OW5 := Lib.hid (OW5.out.kept (kept_stC (fun _ h => h rfl) [.int .i64 x5, .slice A5 l5.length c5, .bool g5] 3 wb (Kept.refl wb (· ≠ w.heap.size + 1))) (fun j e => by have h1 := (OW5.out.lt j e).1; show j ≠ w.heap.size + 1; omega))
  clear n4 n4c n4f n4l RT KL R4 N4 M4 K4 S4 C5
  change Code.wp _ _ _ _ (stC wb (w.heap.size + 1) 3 [.int .i64 x5, .slice A5 l5.length c5, .bool g5])
  generalize stC wb (w.heap.size + 1) 3 [.int .i64 x5, .slice A5 l5.length c5, .bool g5] = W5 at *
  go_upto_region 8 with (go_at_call 88; ((refine (C6.out _ R5.out).mono ?_); rintro e wb ⟨rfl, r, k⟩; have n4 := N5.out.kept k (show w.heap.size + 1 ≠ Br by omega); have n4c := n4.c; have n4f := n4.f; have n4l := n4.lt; have RT := Lib.hid r; have KL := Lib.hid k; clear r k))
  have R6 := Lib.hid (RT.out.other (B2 := w.heap.size + 1) (kept_stC (fun _ h => h rfl) [.int .u8 (x6 : Nat)] 6 wb (Kept.refl _ _)) (by omega))
  have N6 : Hid (AtC (wb.setCell ⟨w.heap.size + 1, 6, none⟩ (.int .u8 (x6 : Nat))) (w.heap.size + 1) #[.int .i64 x2, .int .i64 x3, .slice A4 l4.length c4, .int .i64 x5, .slice A5 l5.length c5, .bool g5, .int .u8 (x6 : Nat)]) := Lib.hid (at_mid [.int .u8 (x6 : Nat)] [.int .i64 x2, .int .i64 x3, .slice A4 l4.length c4, .int .i64 x5, .slice A5 l5.length c5, .bool g5] [.int .u8 0] [] wb n4 rfl)
  have K6 := Lib.hid (kept_stC (w := w) (P := (· ≠ Br)) (B := w.heap.size + 1) (fun h => absurd h (by omega)) [.int .u8 (x6 : Nat)] 6 wb (K5.out.trans KL.out))
  have M6 := Lib.hid (at_store [.int .u8 (x6 : Nat)] 6 wb _ (show w.heap.size ≠ w.heap.size + 1 by omega) (M5.out.kept KL.out (show w.heap.size ≠ Br by omega)))
  have S6 := Lib.hid (Nat.le_trans (Nat.le_trans S5.out KL.out.size) (kept_stC (P := (· ≠ w.heap.size + 1)) (fun _ h => h rfl) [.int .u8 (x6 : Nat)] 6 wb (Kept.refl wb _)).size)
  have OW4 := Lib.hid ((OW4.out.kept KL.out (fun j e => by have h1 := (OW4.out.lt j e).1; show j ≠ Br; omega)).kept (kept_stC (fun _ h => h rfl) [.int .u8 (x6 : Nat)] 6 wb (Kept.refl wb (· ≠ w.heap.size + 1))) (fun j e => by have h1 := (OW4.out.lt j e).1; show j ≠ w.heap.size + 1; omega))
  have OW5 := Lib.hid ((OW5.out.kept KL.out (fun j e => by have h1 := (OW5.out.lt j e).1; show j ≠ Br; omega)).kept (kept_stC (fun _ h => h rfl) [.int .u8 (x6 : Nat)] 6 wb (Kept.refl wb (· ≠ w.heap.size + 1))) (fun j e => by have h1 := (OW5.out.lt j e).1; show j ≠ w.heap.size + 1; omega))
  clear n4 n4c n4f n4l RT KL R5 N5 M5 K5 S5 C6
  change Code.wp _ _ _ _ (wb.setCell ⟨w.heap.size + 1, 6, none⟩ (.int .u8 (x6 : Nat)))
  try dsimp only [stC] at R6
  try dsimp only [stC] at K6
  try dsimp only [stC] at M6
  try dsimp only [stC] at S6
  try dsimp only [stC] at OW4
  try dsimp only [stC] at OW5
  generalize wb.setCell ⟨w.heap.size + 1, 6, none⟩ (.int .u8 (x6 : Nat)) = W6 at *
  have n5 := N6.out
  have m6 := M6.out
  have hc : W6.rangeAt (w.heap.size + 1) 0 (#[.int .i64 x2, .int .i64 x3, .slice A4 l4.length c4, .int .i64 x5, .slice A5 l5.length c5, .bool g5, .int .u8 (x6 : Nat)] : Array Value).toList := fun j v hv => by
    rw [Nat.zero_add, n5.c j, ← hv]; exact Array.getElem?_toList.symm
  have ht : W6.there w.heap.size 0 (#[.int .i64 x2, .int .i64 x3, .slice A4 l4.length c4, .int .i64 x5, .slice A5 l5.length c5, .bool g5, .int .u8 (x6 : Nat)] : Array Value).size := fun j hj => by
    rw [Nat.zero_add]
    refine ⟨?_, m6.f j⟩
    rw [m6.c j]
    have hj : j < 7 := hj
    have : j < (#[.int .i64 0, .int .i64 0, .slice none 0 0, .int .i64 0, .slice none 0 0, .bool false, .int .u8 0] : Array Value).size := hj
    rw [Array.getElem?_eq_getElem this]; rfl
  have h1 : (#[.int .i64 x2, .int .i64 x3, .slice A4 l4.length c4, .int .i64 x5, .slice A5 l5.length c5, .bool g5, .int .u8 (x6 : Nat)] : Array Value).all (·.oneCell') = true := all_oneCell_toArray (fun v hv => by simp at hv; rcases hv with rfl | rfl | rfl | rfl | rfl | rfl | rfl <;> rfl)
  refine wp_region_list ?_
  refine wpList_load_mid rfl _ _ rfl (w.heap.size + 1) 0 rfl (#[.int .i64 x2, .int .i64 x3, .slice A4 l4.length c4, .int .i64 x5, .slice A5 l5.length c5, .bool g5, .int .u8 (x6 : Nat)] : Array Value).toList _ hc Tryz.underlying36 rfl (by kernel_rfl) ?_
  refine wpList_store_mid rfl _ _ _ rfl w.heap.size 0 (#[.int .i64 x2, .int .i64 x3, .slice A4 l4.length c4, .int .i64 x5, .slice A5 l5.length c5, .bool g5, .int .u8 (x6 : Nat)]) rfl rfl ht (by kernel_rfl) h1 ?_
  have eS : W6.setCells w.heap.size 0 (#[.int .i64 x2, .int .i64 x3, .slice A4 l4.length c4, .int .i64 x5, .slice A5 l5.length c5, .bool g5, .int .u8 (x6 : Nat)] : Array Value).toList = stC W6 w.heap.size 0 (#[.int .i64 x2, .int .i64 x3, .slice A4 l4.length c4, .int .i64 x5, .slice A5 l5.length c5, .bool g5, .int .u8 (x6 : Nat)] : Array Value).toList := setCells_st _ _ _ _
  rw [eS]
  have mF : AtC (stC W6 w.heap.size 0 (#[.int .i64 x2, .int .i64 x3, .slice A4 l4.length c4, .int .i64 x5, .slice A5 l5.length c5, .bool g5, .int .u8 (x6 : Nat)] : Array Value).toList) w.heap.size #[.int .i64 x2, .int .i64 x3, .slice A4 l4.length c4, .int .i64 x5, .slice A5 l5.length c5, .bool g5, .int .u8 (x6 : Nat)] := at_all [.int .i64 0, .int .i64 0, .slice none 0 0, .int .i64 0, .slice none 0 0, .bool false, .int .u8 0] [.int .i64 x2, .int .i64 x3, .slice A4 l4.length c4, .int .i64 x5, .slice A5 l5.length c5, .bool g5, .int .u8 (x6 : Nat)] m6 rfl
  have HF : Hid (RAt (stC W6 w.heap.size 0 (#[.int .i64 x2, .int .i64 x3, .slice A4 l4.length c4, .int .i64 x5, .slice A5 l5.length c5, .bool g5, .int .u8 (x6 : Nat)] : Array Value).toList) Br s6) := Lib.hid (RAt.other (B2 := w.heap.size) R6.out (kept_stC (fun _ h => h rfl) _ 0 W6 (Kept.refl _ _)) hBr)
  have KF : Hid (Kept w (stC W6 w.heap.size 0 (#[.int .i64 x2, .int .i64 x3, .slice A4 l4.length c4, .int .i64 x5, .slice A5 l5.length c5, .bool g5, .int .u8 (x6 : Nat)] : Array Value).toList) (· ≠ Br)) := Lib.hid (kept_stC (fun h => absurd h (by omega)) _ 0 W6 K6.out)
  have OF4 := Lib.hid ((OW4.out.kept (kept_stC (fun _ h => h rfl) (#[.int .i64 x2, .int .i64 x3, .slice A4 l4.length c4, .int .i64 x5, .slice A5 l5.length c5, .bool g5, .int .u8 (x6 : Nat)] : Array Value).toList 0 W6 (Kept.refl W6 (· ≠ w.heap.size))) (fun j e => by have h1 := (OW4.out.lt j e).1; show j ≠ w.heap.size; omega)).base (show w.heap.size ≤ w.heap.size + 2 by omega))
  have OF5 := Lib.hid ((OW5.out.kept (kept_stC (fun _ h => h rfl) (#[.int .i64 x2, .int .i64 x3, .slice A4 l4.length c4, .int .i64 x5, .slice A5 l5.length c5, .bool g5, .int .u8 (x6 : Nat)] : Array Value).toList 0 W6 (Kept.refl W6 (· ≠ w.heap.size))) (fun j e => by have h1 := (OW5.out.lt j e).1; show j ≠ w.heap.size; omega)).base (show w.heap.size ≤ w.heap.size + 2 by omega))
  clear eS hc ht h1 n5 m6
  generalize stC W6 w.heap.size 0 (#[.int .i64 x2, .int .i64 x3, .slice A4 l4.length c4, .int .i64 x5, .slice A5 l5.length c5, .bool g5, .int .u8 (x6 : Nat)] : Array Value).toList = WF at *
  go_wp2
  refine ret_row (C := #[.int .i64 x2, .int .i64 x3, .slice A4 l4.length c4, .int .i64 x5, .slice A5 l5.length c5, .bool g5, .int .u8 (x6 : Nat)]) (B := w.heap.size) rfl rfl rfl mF (by kernel_rfl) (by kernel_rfl) ?_
  rw [HQ.out]
  exact ⟨A4, c4, A5, c5, rfl, OF4.out, OF5.out, HF.out, KF.out⟩
end Go.Proofs.YtjocbokfdfdkeaaGreat.PX
