/-
  WALK: the law's awake: the chapter's examples.
-/
import Derived.Test.YtkgjgbenfpkekaaPReadO
import Derived.Test.YtkgjgbenfpkekaaDEq
import Derived.BigQuiet
import Derived.Deep.CutRange
namespace Go.Proofs.Ytkgjgbenfpkekaa.PX
open Go.RowKit HL
open IX (ptr El cellsK cellsK_at cellsK_len OwnK RdK Kept)
open YX (numB rdU rdB rdT rdS rdI addW intN natI rest told WAt WPt Wr RAt vS vU vI u8K Got)
open WX (obK obs_at)
set_option maxRecDepth 100000
set_option linter.unusedVariables false
set_option linter.unusedSimpArgs false

theorem eqO (W : World) (a : Ob) : (Op.equalIn 10000 37 (ob a) (ob a)).run Try.prog W = .ok true W := by rw [DX.run_eqOb W a a, DX.eqOb_t rfl]
def obD : Ob := ⟨⟨#[100]⟩, 1, ⟨#[]⟩, 0, ⟨#[]⟩, 0, 0, 0, false, false, 0, 0, 0, 0⟩
def obV : Ob := ⟨⟨#[118]⟩, 2, ⟨#[100]⟩, 0, ⟨#[]⟩, 0, 0, 0, false, false, 0, 0, 0, 0⟩
theorem fineD : Fine obD := by refine ⟨?_, ?_, ?_, ?_, ?_, ?_, ?_, ?_, ?_, ?_, ?_, ?_⟩ <;> simp [obD, tx]
theorem fineV : Fine obV := by refine ⟨?_, ?_, ?_, ?_, ?_, ?_, ?_, ?_, ?_, ?_, ?_, ?_⟩ <;> simp [obV, tx]
theorem numB_small {n : Nat} (h : n < 128) : numB n = [UInt8.ofNat n] := YX.numB_lo h
theorem bytesD : objB obD = [1, 1, 100, 0] := by
  have e1 : numB 1 = [1] := by rw [numB_small (by decide)]; rfl
  have e0 : numB 0 = [0] := by rw [numB_small (by decide)]; rfl
  have m : maskOf (fvL obD) = 0 := by decide
  have r : restB (fvL obD) = [] := by simp [restB, fvL, fvSet, obD, tx]
  have l : (tx obD.handle).length = 1 := rfl
  simp only [objB, m, r, l, e1, e0]
  rfl
theorem bytesV : objB obV = [2, 1, 118, 1, 1, 100] := by
  have e1 : numB 1 = [1] := by rw [numB_small (by decide)]; rfl
  have m : maskOf (fvL obV) = 1 := by decide
  have r : restB (fvL obV) = [1, 100] := by
    have : restB (fvL obV) = fvB (.s (tx obV.parent)) := by simp [restB, fvL, fvSet, obV, tx]
    rw [this]
    have l : (tx obV.parent).length = 1 := rfl
    simp only [fvB, l, e1]; rfl
  have l : (tx obV.handle).length = 1 := rfl
  simp only [objB, m, r, l, e1]
  rfl
theorem listD : listB codO [obD] = [1, 1, 1, 100, 0] := by
  have e1 : numB 1 = [1] := by rw [numB_small (by decide)]; rfl
  have : listB codO [obD] = numB 1 ++ (objB obD ++ []) := rfl
  rw [this, e1, bytesD]; rfl
theorem writeD : writeL codO [obD] = some [1, 1, 1, 100, 0] := by
  rw [writeL_eq, listD, if_pos]
  refine ⟨by decide, ?_, by decide⟩
  simp [codO, objShort, obD, tx]
theorem twoW : objW (objW (some []) obD) obV = some [1, 1, 100, 0, 2, 1, 118, 1, 1, 100] := by
  have sD : objShort obD = true := by simp [objShort, obD, tx]
  have sV : objShort obV = true := by simp [objShort, obV, tx]
  rw [objW_eq, objW_eq, sD, sV, bytesD, bytesV]
  rfl
theorem readD : readL codO [1, 1, 1, 100, 0] = some [obD] := readL_B codO (fun x hx => by rw [List.mem_singleton.1 hx]; exact fineD) writeD
theorem readBad : readL codO [1, 1, 1, 100, 1, 0] = none := by
  have hm : many [1, 1, 1, 100, 1, 0] = 1 := by rfl
  have hg : (getN codO 1 (behind [1, 1, 1, 100, 1, 0])).1 = [obD] := by rfl
  unfold readL
  rw [hm, hg, if_neg (by decide), writeD, if_neg (by decide)]
/-- A literal row of bytes. -/
theorem rd_lit (w : World) (g : Nat) (hg : g = w.heap.size) (b : Bs) (C : Array Value) (hC : C.toList = b.map YX.u8) (T : TypeId) : RdK u8K (w.alloc (.cells C T)) (w.alloc (.cells C T)).heap.size (some ⟨g, 0, none⟩) b := by
  subst hg
  refine .inr ⟨w.heap.size, 0, rfl, by simp, fun m u hu => ?_⟩
  rw [YX.cells8] at hu
  rw [World.cell?_alloc_at _ _ _ _ rfl, Nat.zero_add, ← Array.getElem?_toList, hC]
  exact hu
theorem lsO_some {P : Program} {f : Nat} {args : Array Value} {w : World} {l : List Ob} (h : Calls P f args w fun e w' => ∃ v n, e = .returned (.tuple #[v, .int .i64 n]) ∧ LsO w' v n (some l) ∧ Below w.heap.size w w') : Calls P f args w fun e w' => ∃ A c, e = .returned (.tuple #[.slice A l.length c, .int .i64 0]) ∧ RdK obK w' w'.heap.size A l ∧ Below w.heap.size w w' :=
  h.mono fun e w' ⟨v, n, he, hb, k⟩ => by
    cases hb with
    | yes A c _ hr => exact ⟨A, c, he, hr, k⟩
theorem lsO_none {P : Program} {f : Nat} {args : Array Value} {w : World} (h : Calls P f args w fun e w' => ∃ v n, e = .returned (.tuple #[v, .int .i64 n]) ∧ LsO w' v n none ∧ Below w.heap.size w w') : Calls P f args w fun e w' => e = .returned (.tuple #[.slice none 0 0, .int .i64 120]) ∧ Below w.heap.size w w' :=
  h.mono fun e w' ⟨v, n, he, hb, k⟩ => by cases hb; exact ⟨he, k⟩
theorem put_D (B : Nat) (W : World) (q : WAt W B (some [])) : Calls Try.prog 16 #[ptr B, ob obD] W fun e w' => Wrt W B (objW (some []) obD) e w' := putObject_any B (some []) obD W fineD q
theorem obj_D (W : World) (g : Nat) (q : RdK obK W W.heap.size (some ⟨g, 0, none⟩) [obD]) : Calls Try.prog 8 #[.slice (some ⟨g, 0, none⟩) 1 1] W fun e w' => ∃ A c, e = .returned (.tuple #[.slice A 5 c, .int .i64 0]) ∧ RdK u8K w' w'.heap.size A [1, 1, 1, 100, 0] ∧ Below W.heap.size W w' := by
  have := lawO_any (some ⟨g, 0, none⟩) 1 [obD] W q (fun x hx => by rw [List.mem_singleton.1 hx]; exact fineD) (by decide)
  rw [writeD] at this
  exact bts_some this
theorem rd_D (W : World) (g : Nat) (q : RdK u8K W W.heap.size (some ⟨g, 0, none⟩) [1, 1, 1, 100, 0]) : Calls Try.prog 40 #[.slice (some ⟨g, 0, none⟩) 5 5] W fun e w' => ∃ A c, e = .returned (.tuple #[.slice A 1 c, .int .i64 0]) ∧ RdK obK w' w'.heap.size A [obD] ∧ Below W.heap.size W w' := by
  have := rlawO_any (some ⟨g, 0, none⟩) 5 [1, 1, 1, 100, 0] W q (by decide) (fun e => by cases e)
  rw [readD] at this
  exact lsO_some this
theorem rd_bad (W : World) (g : Nat) (q : RdK u8K W W.heap.size (some ⟨g, 0, none⟩) [1, 1, 1, 100, 1, 0]) : Calls Try.prog 40 #[.slice (some ⟨g, 0, none⟩) 6 6] W fun e w' => e = .returned (.tuple #[.slice none 0 0, .int .i64 120]) ∧ Below W.heap.size W w' := by
  have := rlawO_any (some ⟨g, 0, none⟩) 6 [1, 1, 1, 100, 1, 0] W q (by decide) (fun e => by cases e)
  rw [readBad] at this
  exact lsO_none this
set_option maxHeartbeats 8000000 in
theorem awake_any (w : World) : Calls Try.prog 14 #[] w fun e w' => e = .returned (.bool true) ∧ Below w.heap.size w w' := by
  have hz := YX.zero_wr
  have CD := Lib.hid put_D
  have CV := Lib.hid (fun (B : Nat) (W : World) (q : WAt W B (objW (some []) obD)) => putObject_any B _ obV W fineV q)
  have CY := Lib.hid (fun (B : Nat) (W : World) (q : WAt W B (some [1, 1, 100, 0, 2, 1, 118, 1, 1, 100])) => bts_some (bytes_any B _ W q))
  have CO := Lib.hid obj_D
  have CR1 := Lib.hid rd_D
  have CR2 := Lib.hid rd_bad
  have HT := Lib.hid twoW
  go_enter Try.func14, Try.ntmps14
  go_upto_region 4 with fail
  have B0 : Hid (Below w.heap.size w (((w.alloc (.cells (obCells obD) 37)).alloc (.cells (obCells obV) 37)).alloc (.cells YX.zW 48))) := Lib.hid (bAl (bAl (bAl (Below.refl _ _) _) _) _)
  have M1 : Hid (AtC (((w.alloc (.cells (obCells obD) 37)).alloc (.cells (obCells obV) 37)).alloc (.cells YX.zW 48)) w.heap.size (obCells obD)) := Lib.hid (((AtC.new _ _ _).al _).al _)
  have M2 : Hid (AtC (((w.alloc (.cells (obCells obD) 37)).alloc (.cells (obCells obV) 37)).alloc (.cells YX.zW 48)) (w.heap.size + 1) (obCells obV)) := Lib.hid ((AtC.newAt (by simp)).al _)
  have HW0 : Hid (WAt (((w.alloc (.cells (obCells obD) 37)).alloc (.cells (obCells obV) 37)).alloc (.cells YX.zW 48)) (w.heap.size + 1 + 1) (some [])) := Lib.hid ⟨[], YX.p0, 0, YX.p0_len, by omega, by simp, by simp, by
    have := YX.AtH.new ((w.alloc (.cells (obCells obD) 37)).alloc (.cells (obCells obV) 37)) 48 YX.zW
    have e : ((w.alloc (.cells (obCells obD) 37)).alloc (.cells (obCells obV) 37)).heap.size = w.heap.size + 1 + 1 := by simp
    rw [e] at this
    exact this⟩
  change Code.wp _ _ _ _ (((w.alloc (.cells (obCells obD) 37)).alloc (.cells (obCells obV) 37)).alloc (.cells YX.zW 48))
  generalize ((w.alloc (.cells (obCells obD) 37)).alloc (.cells (obCells obV) 37)).alloc (.cells YX.zW 48) = W0 at *
  have m1c := M1.out.c
  have m1l := M1.out.lt
  have hE := fun W : World => eqO W obD
  go_upto_region 10 with (first
    | (go_at_call 16; first
      | ((refine (CV.out _ _ HW1.out).mono ?_); rintro e w2 ⟨rfl, r2, k2⟩; have N1 := Lib.hid (P1.out.kept k2 (show w.heap.size ≠ w.heap.size + 1 + 1 by omega)); have HW2 : Hid (WAt w2 (w.heap.size + 1 + 1) (some [1, 1, 100, 0, 2, 1, 118, 1, 1, 100])) := Lib.hid (by rw [← HT.out]; exact r2); have K2 := Lib.hid (K1.out.trans (k2.below K1.out.size (fun j hj => show j ≠ w.heap.size + 1 + 1 by omega))); clear r2 k2)
      | ((refine (CD.out _ _ HW0.out).mono ?_); rintro e w1 ⟨rfl, r1, k1⟩; have HW1 := Lib.hid r1; have P1 := Lib.hid (M1.out.kept k1 (show w.heap.size ≠ w.heap.size + 1 + 1 by omega)); have p2 := M2.out.kept k1 (show w.heap.size + 1 ≠ w.heap.size + 1 + 1 by omega); have p2c := p2.c; have p2l := p2.lt; have K1 := Lib.hid (B0.out.trans (k1.below B0.out.size (fun j hj => show j ≠ w.heap.size + 1 + 1 by omega))); clear r1 k1))
    | (go_at_call 18; ((refine (CY.out _ _ HW2.out).mono ?_); rintro e w3 ⟨A3, c3, rfl, r3, k3⟩; have R3 := Lib.hid r3; have n3 := N1.out.then k3; have n3c := n3.c; have n3l := n3.lt; have K3 := Lib.hid (bThen K2.out k3); clear r3 k3))
    | (go_at_call 8; ((refine (CO.out _ w3.heap.size (IX.RdK.more (IX.RdK.lit (K := obK) w3 obD (obCells obD) rfl 37) (by simp))).mono ?_); rintro e w4 ⟨A4, c4, rfl, r4, k4⟩; have b4 := bThen (bAl (Below.refl w3.heap.size w3) (.cells (obCells obD) 37)) k4; have R4 := Lib.hid r4; have R3b := Lib.hid ((R3.out.below b4).more b4.size); have N4 := Lib.hid (n3.then b4); have K4 := Lib.hid (bThen K3.out b4); clear r4 k4 b4))
    | (go_at_call 40; first
      | ((refine (CR2.out _ w5.heap.size (rd_lit w5 _ rfl _ #[.int .u8 1, .int .u8 1, .int .u8 1, .int .u8 100, .int .u8 1, .int .u8 0] rfl 5)).mono ?_); rintro e w6 ⟨rfl, k6⟩; have b6 := bThen (bAl (Below.refl w5.heap.size w5) (.cells #[.int .u8 1, .int .u8 1, .int .u8 1, .int .u8 100, .int .u8 1, .int .u8 0] 5)) k6; have R3d := Lib.hid ((R3c.out.below b6).more b6.size); have R4d := Lib.hid ((R4c.out.below b6).more b6.size); have R5d := Lib.hid ((R5.out.below b6).more b6.size); have N6 := Lib.hid (N5.out.then b6); have K6 := Lib.hid (bThen K5.out b6); clear k6 b6)
      | ((refine (CR1.out _ w4.heap.size (rd_lit w4 _ rfl _ #[.int .u8 1, .int .u8 1, .int .u8 1, .int .u8 100, .int .u8 0] rfl 5)).mono ?_); rintro e w5 ⟨A5, c5, rfl, r5, k5⟩; have b5 := bThen (bAl (Below.refl w4.heap.size w4) (.cells #[.int .u8 1, .int .u8 1, .int .u8 1, .int .u8 100, .int .u8 0] 5)) k5; have R5 := Lib.hid r5; have R3c := Lib.hid ((R3b.out.below b5).more b5.size); have R4c := Lib.hid ((R4.out.below b5).more b5.size); have N5 := Lib.hid (N4.out.then b5); have K5 := Lib.hid (bThen K4.out b5); clear r5 k5 b5)))
  obtain ⟨b, off, e5, hb5, hc5⟩ := obs_at R5d.out (by decide)
  subst e5
  obtain ⟨p0, p1, p2, p3, p4, p5, p6, p7, p8, p9, p10, p11, p12, p13⟩ := hc5 0 obD rfl
  simp only [Nat.zero_mul, Nat.add_zero] at p0 p1 p2 p3 p4 p5 p6 p7 p8 p9 p10 p11 p12 p13
  have n6c := N6.out.c
  have f3 : ∀ n, (convert 26 9 (.slice A3 10 c3)).run Try.prog (w6.drewN n) = .ok (str [1, 1, 100, 0, 2, 1, 118, 1, 1, 100]) (w6.drewN n) := fun n => YX.conv_str (IX.RdK.below R3d.out (bDrew (Below.refl _ _) n)) rfl
  have f4 : ∀ n, (convert 26 9 (.slice A4 5 c4)).run Try.prog (w6.drewN n) = .ok (str [1, 1, 1, 100, 0]) (w6.drewN n) := fun n => YX.conv_str (IX.RdK.below R4d.out (bDrew (Below.refl _ _) n)) rfl
  go_quiet (fail)
  go_wp2
  go_ret
  exact ⟨rfl, bDrew K6.out _⟩
end Go.Proofs.Ytkgjgbenfpkekaa.PX
