/-
  The law StampChanges walked.
-/
import Derived.Test.YthdphdmiafkkgaaDoorURefAll
import Derived.OwnWalk
import Derived.RangeFuncNested
import Derived.Deep.CutRange
namespace Go.Proofs.YthdphdmiafkkgaaDoor.UX
open Go.RowKit FixMath
open IX (RdK OwnK wpList_spreadK)
open YX (u8K rdY)
set_option maxRecDepth 100000
set_option linter.unusedVariables false
set_option linter.unusedSimpArgs false

theorem _root_.Go.Proofs.YthdphdmiafkkgaaDoor.At2.upto {W W1 : World} {B B' : Nat} {a b : Int} (h : At2 W B a b) (k : Below B' W W1) (hB : B < B') : At2 W1 B a b :=
  ⟨Nat.lt_of_lt_of_le h.lt k.size, by rw [k.cell (p := ⟨B, 0, none⟩) hB]; exact h.c0, by rw [k.cell (p := ⟨B, 1, none⟩) hB]; exact h.c1, by rw [k.frozen (p := ⟨B, 0, none⟩) hB]; exact h.f0, by rw [k.frozen (p := ⟨B, 1, none⟩) hB]; exact h.f1⟩
theorem eqS_self (a b : Int) : eqS a b a b = true := by simp [eqS]
set_option maxHeartbeats 8000000 in
theorem changes_walk (d s : Int) (A : Option Addr) (l : Bs) (c : Nat) (w : World) (hA : Adds w) (h : RdK u8K w w.heap.size A l) (hc : l.length ≤ c) (hm : l.length ≤ maxLen) : Calls Tryd.prog 3 #[sp d s, .slice A l.length c] w fun e w' => e = .returned (.bool true) ∧ Below w.heap.size w w' := by
  unfold maxLen at hm
  have hb0 : Below w.heap.size w w := Below.refl _ _
  by_cases h200 : 200 < l.length
  · have i1 : (200 : Int) < (l.length : Int) := by omega
    go_enter Tryd.func3, Tryd.ntmps3
    go_wp2
    go_ret
    exact ⟨rfl, bAl hb0 _⟩
  · have i1 : ¬ (200 : Int) < (l.length : Int) := by omega
    have HR := Lib.hid h
    have B0 := Lib.hid (bAl (bAl hb0 (.cells #[.int .i64 d, .int .i64 s] 23)) (.cells #[] 5))
    have O0 : Hid (OwnK u8K ((w.alloc (.cells #[.int .i64 d, .int .i64 s] 23)).alloc (.cells #[] 5)) w.heap.size (.slice (some ⟨w.heap.size + 1, 0, none⟩) 0 0) []) := Lib.hid (by have q := OwnK.lit (K := u8K) (w.alloc (.cells #[.int .i64 d, .int .i64 s] 23)) w.heap.size (by simp); rw [show (w.alloc (.cells #[.int .i64 d, .int .i64 s] 23)).heap.size = w.heap.size + 1 by simp] at q; exact q)
    have CA := Lib.hid (fun (W : World) (A2 : Option Addr) (c2 : Nat) (q : Below w.heap.size w W) (r : RdK u8K W W.heap.size A2 l) => stAll_any d s A2 l c2 W ⟨Nat.lt_of_lt_of_le hA.1 q.size, fun j hj => ⟨(q.cell (p := ⟨0, _, none⟩) hA.1).trans (hA.2 j hj).1, (q.cell (p := ⟨0, _, none⟩) hA.1).trans (hA.2 j hj).2⟩⟩ r (by omega))
    have CB := Lib.hid (fun (W : World) (q : Below w.heap.size w W) => refAll15_any d s A l c W ((h.below q).more q.size) (by omega))
    have CN := Lib.hid (fun (k : Nat) (W : World) (q : Below w.heap.size w W) => stNext_any d s k W ⟨Nat.lt_of_lt_of_le hA.1 q.size, fun j hj => ⟨(q.cell (p := ⟨0, _, none⟩) hA.1).trans (hA.2 j hj).1, (q.cell (p := ⟨0, _, none⟩) hA.1).trans (hA.2 j hj).2⟩⟩)
    have CM := Lib.hid (fun (k : Nat) (W : World) => refNext15_any d s k W)
    obtain ⟨X, hX⟩ : ∃ X, aD d s (kds l) = X := ⟨_, rfl⟩
    obtain ⟨Y, hY⟩ : ∃ Y, aS d s (kds l) = Y := ⟨_, rfl⟩
    obtain ⟨N, hNn⟩ : ∃ N, aN d s (kds l) = N := ⟨_, rfl⟩
    obtain ⟨E, hEe⟩ : ∃ E, aE d s (kds l) = E := ⟨_, rfl⟩
    have hAV : alV d s (kds l) = .tuple #[sp X Y, .int .i64 N, .int .i64 E] := by unfold alV; rw [hX, hY, hNn, hEe]
    rw [hAV] at CA CB
    clear hX hY hNn hEe hAV
    have hE := fun W => (run_eqSt W X Y X Y).trans (by rw [eqS_self])
    clear h hA
    go_enter Tryd.func3, Tryd.ntmps3
    go_upto_region 4 with (at_builtin; (refine wpList_spreadK u8K rfl (.tmp 20) (.tmp 21) rfl w.heap.size _ [] rfl O0.out w.heap.size A l.length c l rfl rfl (HR.out.below B0.out) ?c1 ?c2 ?_))
    case c1 => (first | omega | (simp; omega))
    case c2 => (first | exact Nat.le_refl _ | omega | (simp; omega))
    intro v1 w1 o1 g1 f1
    have K1 := Lib.hid (B0.out.grown g1 (by simp; omega) (fun a ha => by simp [Value.ownBlock] at ha; omega))
    have m1 : At2 w1 w.heap.size d s := At2.upto ((At2.new w d s 23).al (.cells #[] 5)) ((Below.refl (w.heap.size + 1) _).grown g1 (by simp) (fun a ha => by simp [Value.ownBlock] at ha; omega)) (by omega)
    have m10 := m1.c0; have m11 := m1.c1; have m1l := m1.lt
    obtain ⟨Am, cm, rfl, rm, hcm, _⟩ := o1.form
    have RM := Lib.hid rm
    clear o1 g1 rm hcm
    go_wp2_with (first
      | (go_at_call 9; ((refine (CA.out _ Am cm K1.out RM.out).mono ?_); rintro e w2 ⟨rfl, k2⟩; have RM2 := Lib.hid ((RM.out.below k2).more k2.size); have K2 := Lib.hid (bThen K1.out k2); have m2 := m1.then k2; have m20 := m2.c0; have m21 := m2.c1; have m2l := m2.lt; have x2 := (At2.new w2 X Y 23); clear k2))
      | (go_at_call 10; ((refine (CB.out _ (bAl K2.out _)).mono ?_); rintro e w3 ⟨rfl, k3⟩; have K3 := Lib.hid (bThen (bAl K2.out _) k3); have m3 := (m2.al _).then k3; have x3 := x2.then k3; have x30 := x3.c0; have x31 := x3.c1; have x3l := x3.lt; have m30 := m3.c0; have m31 := m3.c1; have m3l := m3.lt; have cv1 := YX.conv_str (c := cm) (RM2.out.below (bAl (bThen (bAl (Below.refl w2.heap.size w2) _) k3) (.cells #[.int .i64 X, .int .i64 Y] 23))) rfl; have cv2 := YX.conv_str (c := c) ((HR.out.below (bAl K3.out (.cells #[.int .i64 X, .int .i64 Y] 23)))) rfl; clear k3)))
    have K4 := Lib.hid (bAl K3.out (.cells #[.int .i64 X, .int .i64 Y] 23))
    have m4 := m3.al (.cells #[.int .i64 X, .int .i64 Y] 23)
    go_loopw [12] (fun i wr => ∃ k : Nat, i = .int .i64 k ∧ k ≤ l.length ∧ k ≤ 9 ∧ At2 wr w.heap.size d s ∧ Below w.heap.size w wr) (fun i _ => l.length - (intOf i).toNat)
    case atStart => exact ⟨0, rfl, Nat.zero_le _, Nat.zero_le _, m4, K4.out⟩
    case round =>
      obtain ⟨k, rfl, hk, hk9, m, hb⟩ := hrel
      clear m1 m10 m11 m1l m2 m20 m21 m2l m3 m30 m31 m3l m4 x2 x3 x30 x31 x3l cv1 cv2 hE
      have j0 : (0 : Int) ≤ (k : Int) := by omega
      by_cases hlt : k < l.length
      · have j1 : (k : Int) < (l.length : Int) := by omega
        by_cases hlt9 : k < 9
        · have j2 : (k : Int) < 9 := by omega
          obtain ⟨b, off, rfl, hB, hcc⟩ := (rdY (HR.out.below hb)).at_ (by omega)
          have hcell := hcc k l[k] (List.getElem?_eq_getElem hlt)
          have u := l[k].toNat_lt
          obtain ⟨z, hz⟩ : ∃ z, l[k].toNat = z := ⟨_, rfl⟩
          replace hcell : wr.cell? ⟨b, off + k, none⟩ = some (.int .u8 (l[k].toNat : Int)) := hcell
          rw [hz] at hcell u
          have C1 := Lib.hid (CN.out z)
          have C2 := Lib.hid (CM.out z)
          obtain ⟨P, hP1⟩ : ∃ P, nxD d s z = P := ⟨_, rfl⟩
          obtain ⟨Q, hQ1⟩ : ∃ Q, nxS d s z = Q := ⟨_, rfl⟩
          obtain ⟨F, hF1⟩ : ∃ F, nxE d s z = F := ⟨_, rfl⟩
          have hNV : nxV d s z = .tuple #[sp P Q, .int .i64 F] := by unfold nxV; rw [hP1, hQ1, hF1]
          rw [hNV] at C1 C2
          have hE := fun W => (run_eqSt W P Q P Q).trans (by rw [eqS_self])
          clear hz hcc hP1 hQ1 hF1 hNV
          have hbl : b < wr.heap.size := World.block_lt_of_cell? _ _ hcell
          have ml := m.lt
          have m0 := m.c0; have m1 := m.c1
          go_wp2_with fail
          have hS : ∀ W', Below wr.heap.size wr W' → ((W'.cell? ⟨b, off + k, none⟩ = some (.int .u8 (z : Int)) ∧ W'.cell? ⟨w.heap.size, 0, none⟩ = some (.int .i64 d) ∧ W'.cell? ⟨w.heap.size, 1, none⟩ = some (.int .i64 s)) ∧ Below wr.heap.size wr W') := fun W' q => ⟨⟨(q.cell (p := ⟨b, _, none⟩) hbl).trans hcell, (q.cell (p := ⟨w.heap.size, _, none⟩) ml).trans m0, (q.cell (p := ⟨w.heap.size, _, none⟩) ml).trans m1⟩, q⟩
          go_region_held3 (fun W' => (W'.cell? ⟨b, off + k, none⟩ = some (.int .u8 (z : Int)) ∧ W'.cell? ⟨w.heap.size, 0, none⟩ = some (.int .i64 d) ∧ W'.cell? ⟨w.heap.size, 1, none⟩ = some (.int .i64 s)) ∧ Below wr.heap.size wr W')
            (first | with_reducible exact hS _ (bSet (And.right ‹_ ∧ Below wr.heap.size wr w3›) (Nat.le_refl _) _ _) | with_reducible exact hS _ (Below.refl _ _).drew | with_reducible exact hS _ (keepD (by assumption) k3) | with_reducible exact hS _ (bAl (Below.refl _ _).drew _) | with_reducible exact hS _ (bAl (Below.refl _ _) _).drew | with_reducible exact hS _ (bAl (bThen (Below.refl _ _).drew k3) _))
            ((go_at_call 11; (with_reducible refine (C1.out _ (bThen hb (And.right ‹_ ∧ Below wr.heap.size wr _›))).mono ?_); rintro e w3 ⟨rfl, k3⟩; first | (with_reducible have mT := (AtC.new _ _ _).drew1.then k3; have tf := mT.f; have tl := mT.lt; have tc := mT.c) | skip))
          · rename_i hH
            have W4K := hH.2
            have W4n : At2 _ w3.heap.size P Q := At2.new w3 P Q 23
            generalize (w3.alloc (.cells #[.int .i64 P, .int .i64 Q] 23)) = W4 at W4K W4n ⊢
            generalize w3.heap.size = BW4 at *
            clear hH
            clear hS
            have t := m.then W4K
            have hb4 := bThen hb W4K
            have hbl4 := Nat.lt_of_lt_of_le hbl W4K.size
            have hcell4 := (W4K.cell (p := ⟨b, _, none⟩) hbl).trans hcell
            have ml4 := t.lt
            have m04 := t.c0; have m14 := t.c1
            go_wp2_with fail
            have hS : ∀ W', Below W4.heap.size W4 W' → ((W'.cell? ⟨b, off + k, none⟩ = some (.int .u8 (z : Int)) ∧ W'.cell? ⟨w.heap.size, 0, none⟩ = some (.int .i64 d) ∧ W'.cell? ⟨w.heap.size, 1, none⟩ = some (.int .i64 s)) ∧ Below W4.heap.size W4 W') := fun W' q => ⟨⟨(q.cell (p := ⟨b, _, none⟩) hbl4).trans hcell4, (q.cell (p := ⟨w.heap.size, _, none⟩) ml4).trans m04, (q.cell (p := ⟨w.heap.size, _, none⟩) ml4).trans m14⟩, q⟩
            go_region_held3 (fun W' => (W'.cell? ⟨b, off + k, none⟩ = some (.int .u8 (z : Int)) ∧ W'.cell? ⟨w.heap.size, 0, none⟩ = some (.int .i64 d) ∧ W'.cell? ⟨w.heap.size, 1, none⟩ = some (.int .i64 s)) ∧ Below W4.heap.size W4 W')
              (first | with_reducible exact hS _ (bSet (And.right ‹_ ∧ Below W4.heap.size W4 w3›) (Nat.le_refl _) _ _) | with_reducible exact hS _ (Below.refl _ _).drew | with_reducible exact hS _ (keepD (by assumption) k3) | with_reducible exact hS _ (bAl (Below.refl _ _).drew _) | with_reducible exact hS _ (bAl (Below.refl _ _) _).drew | with_reducible exact hS _ (bAl (bThen (Below.refl _ _).drew k3) _))
              ((go_at_call 12; (with_reducible refine (C2.out _).mono ?_); rintro e w3 ⟨rfl, k3⟩; first | (with_reducible have mT := (AtC.new _ _ _).drew1.then k3; have tf := mT.f; have tl := mT.lt; have tc := mT.c) | skip))
            · rename_i hH
              have W5K := hH.2
              have W5n : At2 _ w3.heap.size P Q := At2.new w3 P Q 23
              generalize (w3.alloc (.cells #[.int .i64 P, .int .i64 Q] 23)) = W5 at W5K W5n ⊢
              generalize w3.heap.size = BW5 at *
              clear hH
              clear hS
              have t5 := t.then W5K
              have hb5 := bThen hb4 W5K
              have n5 := W4n.then W5K
              have e0 := n5.c0; have e1 := n5.c1; have f0 := W5n.c0; have f1 := W5n.c1
              go_wp2
              go_roundw
              case rel => exact ⟨k + 1, by go_num, by omega, by omega, t5, hb5⟩
              case measure => simp [intOf]; omega
            · rename_i hH
              have W5K := hH.2
              have W5n : At2 _ W4.heap.size P Q := At2.set (a := 0) (b := 0) ⟨mT.lt, mT.c 0, mT.c 1, mT.f 0, mT.f 1⟩ P Q
              generalize ((w3.setCell ⟨W4.heap.size, 0, none⟩ (.int .i64 P)).setCell ⟨W4.heap.size, 1, none⟩ (.int .i64 Q)) = W5 at W5K W5n ⊢
              generalize W4.heap.size = BW5 at W5n ⊢
              clear hH
              clear hS
              have t5 := t.then W5K
              have hb5 := bThen hb4 W5K
              have n5 := W4n.then W5K
              have e0 := n5.c0; have e1 := n5.c1; have f0 := W5n.c0; have f1 := W5n.c1
              go_wp2
              go_roundw
              case rel => exact ⟨k + 1, by go_num, by omega, by omega, t5, hb5⟩
              case measure => simp [intOf]; omega
          · rename_i hH
            have W4K := hH.2
            have W4n : At2 _ wr.heap.size P Q := At2.set (a := 0) (b := 0) ⟨mT.lt, mT.c 0, mT.c 1, mT.f 0, mT.f 1⟩ P Q
            generalize ((w3.setCell ⟨wr.heap.size, 0, none⟩ (.int .i64 P)).setCell ⟨wr.heap.size, 1, none⟩ (.int .i64 Q)) = W4 at W4K W4n ⊢
            generalize wr.heap.size = BW4 at W4n ⊢
            clear hH
            clear hS
            have t := m.then W4K
            have hb4 := bThen hb W4K
            have hbl4 := Nat.lt_of_lt_of_le hbl W4K.size
            have hcell4 := (W4K.cell (p := ⟨b, _, none⟩) hbl).trans hcell
            have ml4 := t.lt
            have m04 := t.c0; have m14 := t.c1
            go_wp2_with fail
            have hS : ∀ W', Below W4.heap.size W4 W' → ((W'.cell? ⟨b, off + k, none⟩ = some (.int .u8 (z : Int)) ∧ W'.cell? ⟨w.heap.size, 0, none⟩ = some (.int .i64 d) ∧ W'.cell? ⟨w.heap.size, 1, none⟩ = some (.int .i64 s)) ∧ Below W4.heap.size W4 W') := fun W' q => ⟨⟨(q.cell (p := ⟨b, _, none⟩) hbl4).trans hcell4, (q.cell (p := ⟨w.heap.size, _, none⟩) ml4).trans m04, (q.cell (p := ⟨w.heap.size, _, none⟩) ml4).trans m14⟩, q⟩
            go_region_held3 (fun W' => (W'.cell? ⟨b, off + k, none⟩ = some (.int .u8 (z : Int)) ∧ W'.cell? ⟨w.heap.size, 0, none⟩ = some (.int .i64 d) ∧ W'.cell? ⟨w.heap.size, 1, none⟩ = some (.int .i64 s)) ∧ Below W4.heap.size W4 W')
              (first | with_reducible exact hS _ (bSet (And.right ‹_ ∧ Below W4.heap.size W4 w3›) (Nat.le_refl _) _ _) | with_reducible exact hS _ (Below.refl _ _).drew | with_reducible exact hS _ (keepD (by assumption) k3) | with_reducible exact hS _ (bAl (Below.refl _ _).drew _) | with_reducible exact hS _ (bAl (Below.refl _ _) _).drew | with_reducible exact hS _ (bAl (bThen (Below.refl _ _).drew k3) _))
              ((go_at_call 12; (with_reducible refine (C2.out _).mono ?_); rintro e w3 ⟨rfl, k3⟩; first | (with_reducible have mT := (AtC.new _ _ _).drew1.then k3; have tf := mT.f; have tl := mT.lt; have tc := mT.c) | skip))
            · rename_i hH
              have W5K := hH.2
              have W5n : At2 _ w3.heap.size P Q := At2.new w3 P Q 23
              generalize (w3.alloc (.cells #[.int .i64 P, .int .i64 Q] 23)) = W5 at W5K W5n ⊢
              generalize w3.heap.size = BW5 at *
              clear hH
              clear hS
              have t5 := t.then W5K
              have hb5 := bThen hb4 W5K
              have n5 := W4n.then W5K
              have e0 := n5.c0; have e1 := n5.c1; have f0 := W5n.c0; have f1 := W5n.c1
              go_wp2
              go_roundw
              case rel => exact ⟨k + 1, by go_num, by omega, by omega, t5, hb5⟩
              case measure => simp [intOf]; omega
            · rename_i hH
              have W5K := hH.2
              have W5n : At2 _ W4.heap.size P Q := At2.set (a := 0) (b := 0) ⟨mT.lt, mT.c 0, mT.c 1, mT.f 0, mT.f 1⟩ P Q
              generalize ((w3.setCell ⟨W4.heap.size, 0, none⟩ (.int .i64 P)).setCell ⟨W4.heap.size, 1, none⟩ (.int .i64 Q)) = W5 at W5K W5n ⊢
              generalize W4.heap.size = BW5 at W5n ⊢
              clear hH
              clear hS
              have t5 := t.then W5K
              have hb5 := bThen hb4 W5K
              have n5 := W4n.then W5K
              have e0 := n5.c0; have e1 := n5.c1; have f0 := W5n.c0; have f1 := W5n.c1
              go_wp2
              go_roundw
              case rel => exact ⟨k + 1, by go_num, by omega, by omega, t5, hb5⟩
              case measure => simp [intOf]; omega
        · have j2 : ¬ (k : Int) < 9 := by omega
          go_wp2
          go_ret
          exact ⟨rfl, hb⟩
      · have j1 : ¬ (k : Int) < (l.length : Int) := by omega
        go_wp2
        go_ret
        exact ⟨rfl, hb⟩
end Go.Proofs.YthdphdmiafkkgaaDoor.UX
