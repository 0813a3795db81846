/-
  WALK: getReport.
-/
import Derived.Test.YtjocbokfdfdkeaaGreatLZ7
import Derived.Test.YtjocbokfdfdkeaaGreatLZLRep
namespace Go.Proofs.YtjocbokfdfdkeaaGreat.PX
open Go.RowKit HL
open IX (ptr El cellsK cellsK_at cellsK_len OwnK RdK Kept strK)
open YX (numB rdU rdB rdT rdS rdI addW intN natI rest told WAt WPt Wr RAt vS vU vI u8K Got)
open DX (Ch ch chCells chK zeroCh)
set_option maxRecDepth 100000
set_option linter.unusedVariables false
set_option linter.unusedSimpArgs false

/-- A report as it is read. -/
def getR (s : Option Bs) : (Int × List Ch × Bool) × Option Bs := ((told (0 : Int) rdI (rest rdB s), (getF codC (rest rdI (rest rdB s))).1, (told (0 : Nat) rdT (getF codC (rest rdI (rest rdB s))).2 == 1)), rest rdT (getF codC (rest rdI (rest rdB s))).2)
/-- What getReport tells. -/
def Rr (w : World) (Br : Nat) (q : (Int × List Ch × Bool) × Option Bs) (e : Ending) (w' : World) : Prop := ∃ A c, e = .returned (rp q.1.1 A q.1.2.1.length c q.1.2.2) ∧ OwnK chK w' w.heap.size (.slice A q.1.2.1.length c) q.1.2.1 ∧ RAt w' Br q.2 ∧ Kept w w' (· ≠ Br)
set_option maxHeartbeats 8000000 in
theorem getReport_any (Br : Nat) (s : Option Bs) (w : World) (hr : RAt w Br s) :
    Calls Tryz.prog 71 #[ptr Br] w fun e w' => Rr w Br (getR s) e w' := by
  have hBr := hr.lt
  obtain ⟨Z, hZ⟩ : ∃ Z : Array Value, Z = #[.int .i64 0, .slice none 0 0, .bool false] := ⟨_, rfl⟩
  have hb := bAl (bAl (Below.refl w.heap.size w) (.cells #[.int .i64 0, .slice none 0 0, .bool false] 34)) (.cells #[.int .i64 0, .slice none 0 0, .bool false] 34)
  have R0 := Lib.hid (hr.below hb)
  have M0 : Hid (AtC ((w.alloc (.cells #[.int .i64 0, .slice none 0 0, .bool false] 34)).alloc (.cells #[.int .i64 0, .slice none 0 0, .bool false] 34)) w.heap.size #[.int .i64 0, .slice none 0 0, .bool false]) := Lib.hid ((AtC.new w #[.int .i64 0, .slice none 0 0, .bool false] 34).al (.cells #[.int .i64 0, .slice none 0 0, .bool false] 34))
  have N0 : Hid (AtC ((w.alloc (.cells #[.int .i64 0, .slice none 0 0, .bool false] 34)).alloc (.cells #[.int .i64 0, .slice none 0 0, .bool false] 34)) (w.heap.size + 1) #[.int .i64 0, .slice none 0 0, .bool false]) := Lib.hid (AtC.newAt (by simp))
  have K0 : Hid (Kept w ((w.alloc (.cells #[.int .i64 0, .slice none 0 0, .bool false] 34)).alloc (.cells #[.int .i64 0, .slice none 0 0, .bool false] 34)) (· ≠ Br)) := Lib.hid (.of_below hb)
  have S0 : Hid (w.heap.size + 2 ≤ ((w.alloc (.cells #[.int .i64 0, .slice none 0 0, .bool false] 34)).alloc (.cells #[.int .i64 0, .slice none 0 0, .bool false] 34)).heap.size) := Lib.hid (by simp)
  obtain ⟨s1, hs1⟩ : ∃ x, rest rdB s = x := ⟨_, rfl⟩
  obtain ⟨x2, hx2⟩ : ∃ x, told (0 : Int) rdI s1 = x := ⟨_, rfl⟩
  obtain ⟨s2, hs2⟩ : ∃ x, rest rdI s1 = x := ⟨_, rfl⟩
  obtain ⟨⟨l3, s3⟩, hx3⟩ : ∃ q, getF codC s2 = q := ⟨_, rfl⟩
  obtain ⟨x4, hx4⟩ : ∃ x, (told (0 : Nat) rdT s3 == 1) = x := ⟨_, rfl⟩
  obtain ⟨s4, hs4⟩ : ∃ x, rest rdT s3 = x := ⟨_, rfl⟩
  have HQ : Hid (getR s = ((x2, l3, x4), s4)) := Lib.hid (by unfold getR; simp only [hs1, hx2, hs2, hx3, hx4, hs4])
  have C1 : Hid (∀ W, RAt W Br s → Calls Tryz.prog 88 #[ptr Br] W fun e w' => ∃ v, e = .returned v ∧ RAt w' Br s1 ∧ Kept W w' (· ≠ Br)) := Lib.hid (fun W q => by have h := YX.octet_any2 Br s W q; rw [hs1] at h; exact h.mono fun e w' q => ⟨_, q⟩)
  have C2 : Hid (∀ W, RAt W Br s1 → Calls Tryz.prog 92 #[ptr Br] W fun e w' => e = .returned (.int .i64 x2) ∧ RAt w' Br s2 ∧ Kept W w' (· ≠ Br)) := Lib.hid (fun W q => by have h := YX.signed_any2 Br s1 W q; simp only [hs2, hx2] at h; exact h)
  have C3 : Hid (∀ W, RAt W Br s2 → Calls Tryz.prog 103 #[fm 84 91, ptr Br] W fun e w' => Lg chK W Br (l3, s3) e w') := Lib.hid (fun W q => by have h := getListC_any Br s2 84 W q; rw [hx3] at h; exact h)
  have CC := Lib.hid changes_any
  have C4 : Hid (∀ W, RAt W Br s3 → Calls Tryz.prog 93 #[ptr Br] W fun e w' => e = .returned (.bool x4) ∧ RAt w' Br s4 ∧ Kept W w' (· ≠ Br)) := Lib.hid (fun W q => by have h := YX.truth_any2 Br s3 W q; simp only [hs4, hx4] at h; exact h)
  clear hr hb hs1 hx2 hs2 hx3 hx4 hs4
  go_enter Tryz.func71, Tryz.ntmps71
  go_upto_region 2 with fail
  change Code.wp _ _ _ _ ((w.alloc (.cells #[.int .i64 0, .slice none 0 0, .bool false] 34)).alloc (.cells #[.int .i64 0, .slice none 0 0, .bool false] 34))
  generalize ((w.alloc (.cells #[.int .i64 0, .slice none 0 0, .bool false] 34)).alloc (.cells #[.int .i64 0, .slice none 0 0, .bool false] 34)) = W0 at *
  go_upto_region 3 with (go_at_call 88; ((refine (C1.out _ R0.out).mono ?_); rintro e W1 ⟨v, rfl, r, k⟩; have R1 := Lib.hid r; have N1 := Lib.hid (N0.out.kept k (show w.heap.size + 1 ≠ Br by omega)); have M1 := Lib.hid (M0.out.kept k (show w.heap.size ≠ Br by omega)); have K1 := Lib.hid (K0.out.trans k); have S1 := Lib.hid (Nat.le_trans S0.out k.size); clear r k))
  clear R0 N0 M0 K0 S0 C1
  go_upto_region 4 with (go_at_call 92; ((refine (C2.out _ R1.out).mono ?_); rintro e wb ⟨rfl, r, k⟩; have n4 := N1.out.kept k (show w.heap.size + 1 ≠ Br by omega); have n4c := n4.c; have n4f := n4.f; have n4l := n4.lt; have RT := Lib.hid r; have KL := Lib.hid k; clear r k))
  have R2 := Lib.hid (RT.out.other (B2 := w.heap.size + 1) (kept_stC (fun _ h => h rfl) [.int .i64 x2] 0 wb (Kept.refl _ _)) (by omega))
  have N2 : Hid (AtC (wb.setCell ⟨w.heap.size + 1, 0, none⟩ (.int .i64 x2)) (w.heap.size + 1) #[.int .i64 x2, .slice none 0 0, .bool false]) := Lib.hid (at_mid [.int .i64 x2] [] [.int .i64 0] [.slice none 0 0, .bool false] wb n4 rfl)
  have K2 := Lib.hid (kept_stC (w := w) (P := (· ≠ Br)) (B := w.heap.size + 1) (fun h => absurd h (by omega)) [.int .i64 x2] 0 wb (K1.out.trans KL.out))
  have M2 := Lib.hid (at_store [.int .i64 x2] 0 wb _ (show w.heap.size ≠ w.heap.size + 1 by omega) (M1.out.kept KL.out (show w.heap.size ≠ Br by omega)))
  have S2 := Lib.hid (Nat.le_trans (Nat.le_trans S1.out KL.out.size) (kept_stC (P := (· ≠ w.heap.size + 1)) (fun _ h => h rfl) [.int .i64 x2] 0 wb (Kept.refl wb _)).size)
  clear n4 n4c n4f n4l RT KL R1 N1 M1 K1 S1 C2
  change Code.wp _ _ _ _ (wb.setCell ⟨w.heap.size + 1, 0, none⟩ (.int .i64 x2))
  try dsimp only [stC] at R2
  try dsimp only [stC] at K2
  try dsimp only [stC] at M2
  try dsimp only [stC] at S2
  generalize wb.setCell ⟨w.heap.size + 1, 0, none⟩ (.int .i64 x2) = W2 at *
  go_upto_region 5 with (first
    | (go_at_call 101; (with_reducible refine (CC.out _).mono ?_); rintro e wa ⟨rfl, k3⟩; have B3 : Hid (Below W2.heap.size W2 wa) := Lib.hid k3; have kC : Kept W2 wa (· ≠ Br) := .of_below B3.out; clear k3)
    | (go_at_call 103; (refine (C3.out _ (R2.out.below B3.out)).mono ?_); rintro e wb ⟨v, rfl, o4, r4, k4⟩; have KL : Hid (Kept W2 wb (· ≠ Br)) := Lib.hid (kC.trans k4); have OT := Lib.hid (o4.base (Nat.le_trans S2.out B3.out.size)); obtain ⟨A3, c3, rfl, _, _⟩ := o4.form; have n4 := N2.out.kept KL.out (show w.heap.size + 1 ≠ Br by omega); have n4c := n4.c 1; have n4f := n4.f; have n4l := n4.lt; have RT := Lib.hid r4; clear r4 k4 o4 kC))
  have R3 := Lib.hid (RT.out.other (B2 := w.heap.size + 1) (kept_stC (fun _ h => h rfl) [.slice A3 l3.length c3] 1 wb (Kept.refl _ _)) (by omega))
  have N3 : Hid (AtC (wb.setCell ⟨w.heap.size + 1, 1, none⟩ (.slice A3 l3.length c3)) (w.heap.size + 1) #[.int .i64 x2, .slice A3 l3.length c3, .bool false]) := Lib.hid (at_mid [.slice A3 l3.length c3] [.int .i64 x2] [.slice none 0 0] [.bool false] wb n4 rfl)
  have K3 := Lib.hid (kept_stC (w := w) (P := (· ≠ Br)) (B := w.heap.size + 1) (fun h => absurd h (by omega)) [.slice A3 l3.length c3] 1 wb (K2.out.trans KL.out))
  have M3 := Lib.hid (at_store [.slice A3 l3.length c3] 1 wb _ (show w.heap.size ≠ w.heap.size + 1 by omega) (M2.out.kept KL.out (show w.heap.size ≠ Br by omega)))
  have S3 := Lib.hid (Nat.le_trans (Nat.le_trans S2.out KL.out.size) (kept_stC (P := (· ≠ w.heap.size + 1)) (fun _ h => h rfl) [.slice A3 l3.length c3] 1 wb (Kept.refl wb _)).size)
  have OW3 := Lib.hid (OT.out.kept (kept_stC (fun _ h => h rfl) [.slice A3 l3.length c3] 1 wb (Kept.refl wb (· ≠ w.heap.size + 1))) (fun j e => by have h1 := (OT.out.lt j e).1; show j ≠ w.heap.size + 1; omega))
  clear n4 n4c n4f n4l RT KL CC OT R2 N2 M2 K2 S2 C3
  change Code.wp _ _ _ _ (wb.setCell ⟨w.heap.size + 1, 1, none⟩ (.slice A3 l3.length c3))
  try dsimp only [stC] at R3
  try dsimp only [stC] at K3
  try dsimp only [stC] at M3
  try dsimp only [stC] at S3
  try dsimp only [stC] at OW3
  generalize wb.setCell ⟨w.heap.size + 1, 1, none⟩ (.slice A3 l3.length c3) = W3 at *
  go_upto_region 6 with (go_at_call 93; ((refine (C4.out _ R3.out).mono ?_); rintro e wb ⟨rfl, r, k⟩; have n4 := N3.out.kept k (show w.heap.size + 1 ≠ Br by omega); have n4c := n4.c; have n4f := n4.f; have n4l := n4.lt; have RT := Lib.hid r; have KL := Lib.hid k; clear r k))
  have R4 := Lib.hid (RT.out.other (B2 := w.heap.size + 1) (kept_stC (fun _ h => h rfl) [.bool x4] 2 wb (Kept.refl _ _)) (by omega))
  have N4 : Hid (AtC (wb.setCell ⟨w.heap.size + 1, 2, none⟩ (.bool x4)) (w.heap.size + 1) #[.int .i64 x2, .slice A3 l3.length c3, .bool x4]) := Lib.hid (at_mid [.bool x4] [.int .i64 x2, .slice A3 l3.length c3] [.bool false] [] wb n4 rfl)
  have K4 := Lib.hid (kept_stC (w := w) (P := (· ≠ Br)) (B := w.heap.size + 1) (fun h => absurd h (by omega)) [.bool x4] 2 wb (K3.out.trans KL.out))
  have M4 := Lib.hid (at_store [.bool x4] 2 wb _ (show w.heap.size ≠ w.heap.size + 1 by omega) (M3.out.kept KL.out (show w.heap.size ≠ Br by omega)))
  have S4 := Lib.hid (Nat.le_trans (Nat.le_trans S3.out KL.out.size) (kept_stC (P := (· ≠ w.heap.size + 1)) (fun _ h => h rfl) [.bool x4] 2 wb (Kept.refl wb _)).size)
  have OW3 := Lib.hid ((OW3.out.kept KL.out (fun j e => by have h1 := (OW3.out.lt j e).1; show j ≠ Br; omega)).kept (kept_stC (fun _ h => h rfl) [.bool x4] 2 wb (Kept.refl wb (· ≠ w.heap.size + 1))) (fun j e => by have h1 := (OW3.out.lt j e).1; show j ≠ w.heap.size + 1; omega))
  clear n4 n4c n4f n4l RT KL R3 N3 M3 K3 S3 C4
  change Code.wp _ _ _ _ (wb.setCell ⟨w.heap.size + 1, 2, none⟩ (.bool x4))
  try dsimp only [stC] at R4
  try dsimp only [stC] at K4
  try dsimp only [stC] at M4
  try dsimp only [stC] at S4
  try dsimp only [stC] at OW3
  generalize wb.setCell ⟨w.heap.size + 1, 2, none⟩ (.bool x4) = W4 at *
  have n5 := N4.out
  have m6 := M4.out
  have hc : W4.rangeAt (w.heap.size + 1) 0 (#[.int .i64 x2, .slice A3 l3.length c3, .bool x4] : Array Value).toList := fun j v hv => by
    rw [Nat.zero_add, n5.c j, ← hv]; exact Array.getElem?_toList.symm
  have ht : W4.there w.heap.size 0 (#[.int .i64 x2, .slice A3 l3.length c3, .bool x4] : Array Value).size := fun j hj => by
    rw [Nat.zero_add]
    refine ⟨?_, m6.f j⟩
    rw [m6.c j]
    have hj : j < 3 := hj
    have : j < (#[.int .i64 0, .slice none 0 0, .bool false] : Array Value).size := hj
    rw [Array.getElem?_eq_getElem this]; rfl
  have h1 : (#[.int .i64 x2, .slice A3 l3.length c3, .bool x4] : Array Value).all (·.oneCell') = true := all_oneCell_toArray (fun v hv => by simp at hv; rcases hv with rfl | rfl | rfl <;> rfl)
  refine wp_region_list ?_
  refine wpList_load_mid rfl _ _ rfl (w.heap.size + 1) 0 rfl (#[.int .i64 x2, .slice A3 l3.length c3, .bool x4] : Array Value).toList _ hc Tryz.underlying34 rfl (by kernel_rfl) ?_
  refine wpList_store_mid rfl _ _ _ rfl w.heap.size 0 (#[.int .i64 x2, .slice A3 l3.length c3, .bool x4]) rfl rfl ht (by kernel_rfl) h1 ?_
  have eS : W4.setCells w.heap.size 0 (#[.int .i64 x2, .slice A3 l3.length c3, .bool x4] : Array Value).toList = stC W4 w.heap.size 0 (#[.int .i64 x2, .slice A3 l3.length c3, .bool x4] : Array Value).toList := setCells_st _ _ _ _
  rw [eS]
  have mF : AtC (stC W4 w.heap.size 0 (#[.int .i64 x2, .slice A3 l3.length c3, .bool x4] : Array Value).toList) w.heap.size #[.int .i64 x2, .slice A3 l3.length c3, .bool x4] := at_all [.int .i64 0, .slice none 0 0, .bool false] [.int .i64 x2, .slice A3 l3.length c3, .bool x4] m6 rfl
  have HF : Hid (RAt (stC W4 w.heap.size 0 (#[.int .i64 x2, .slice A3 l3.length c3, .bool x4] : Array Value).toList) Br s4) := Lib.hid (RAt.other (B2 := w.heap.size) R4.out (kept_stC (fun _ h => h rfl) _ 0 W4 (Kept.refl _ _)) hBr)
  have KF : Hid (Kept w (stC W4 w.heap.size 0 (#[.int .i64 x2, .slice A3 l3.length c3, .bool x4] : Array Value).toList) (· ≠ Br)) := Lib.hid (kept_stC (fun h => absurd h (by omega)) _ 0 W4 K4.out)
  have OF3 := Lib.hid ((OW3.out.kept (kept_stC (fun _ h => h rfl) (#[.int .i64 x2, .slice A3 l3.length c3, .bool x4] : Array Value).toList 0 W4 (Kept.refl W4 (· ≠ w.heap.size))) (fun j e => by have h1 := (OW3.out.lt j e).1; show j ≠ w.heap.size; omega)).base (show w.heap.size ≤ w.heap.size + 2 by omega))
  clear eS hc ht h1 n5 m6
  generalize stC W4 w.heap.size 0 (#[.int .i64 x2, .slice A3 l3.length c3, .bool x4] : Array Value).toList = WF at *
  go_wp2
  refine ret_row (C := #[.int .i64 x2, .slice A3 l3.length c3, .bool x4]) (B := w.heap.size) rfl rfl rfl mF (by kernel_rfl) (by kernel_rfl) ?_
  rw [HQ.out]
  exact ⟨A3, c3, rfl, OF3.out, HF.out, KF.out⟩
end Go.Proofs.YtjocbokfdfdkeaaGreat.PX
