/-
  The law RecordReads walked.
-/
import Derived.Test.YtkgjgbenfpkekaaGreatPR8
import Derived.Test.YtkgjgbenfpkekaaGreatPR9
namespace Go.Proofs.YtkgjgbenfpkekaaGreat.PX
open Go.RowKit HL
open IX (ptr El cellsK cellsK_at cellsK_len OwnK RdK Kept wpList_spreadK)
open YX (numB rdU rdB rdT rdS rdI addW intN natI rest told u8K)
open WX (obK)
open DX (Ch ch chCells chK)
set_option maxRecDepth 100000
set_option linter.unusedVariables false
set_option linter.unusedSimpArgs false

def nO (r : Option (List Ob)) : Int := match r with | some _ => 0 | none => 120
/-- A list told: a row that reads as it. -/
theorem lsO_form {w : World} {v : Value} {n : Int} {r : Option (List Ob)} (h : LsO w v n r) : n = nO r ∧ ∃ A c, v = .slice A (r.getD []).length c ∧ RdK obK w w.heap.size A (r.getD []) := by
  cases h with
  | yes A c l h => exact ⟨rfl, A, c, rfl, h⟩
  | no => exact ⟨rfl, none, 0, rfl, .inl rfl⟩
def TlO (w0 : World) (n : Int) (l : List Ob) (e : Ending) (w' : World) : Prop := ∃ A c, e = .returned (.tuple #[.slice A l.length c, .int .i64 n]) ∧ RdK obK w' w'.heap.size A l ∧ Below w0.heap.size w0 w'
theorem lsO_tl {w0 : World} {r : Option (List Ob)} {e : Ending} {w' : World} (h : ∃ v n, e = .returned (.tuple #[v, .int .i64 n]) ∧ LsO w' v n r ∧ Below w0.heap.size w0 w') : TlO w0 (nO r) (r.getD []) e w' := by
  obtain ⟨v, n, rfl, hl, k⟩ := h
  obtain ⟨rfl, A, c, rfl, hr⟩ := lsO_form hl
  exact ⟨A, c, rfl, hr, k⟩
theorem readO_len {b : Bs} : ((readL codO b).getD []).length ≤ 64 := by
  cases e : readL codO b with
  | none => simp
  | some l => exact (writeL_some codO (readL_inv codO e).1).2.1
def nC (r : Option (List Ch)) : Int := match r with | some _ => 0 | none => 120
/-- A list told: a row that reads as it. -/
theorem lsC_form {w : World} {v : Value} {n : Int} {r : Option (List Ch)} (h : LsC w v n r) : n = nC r ∧ ∃ A c, v = .slice A (r.getD []).length c ∧ RdK chK w w.heap.size A (r.getD []) := by
  cases h with
  | yes A c l h => exact ⟨rfl, A, c, rfl, h⟩
  | no => exact ⟨rfl, none, 0, rfl, .inl rfl⟩
def TlC (w0 : World) (n : Int) (l : List Ch) (e : Ending) (w' : World) : Prop := ∃ A c, e = .returned (.tuple #[.slice A l.length c, .int .i64 n]) ∧ RdK chK w' w'.heap.size A l ∧ Below w0.heap.size w0 w'
theorem lsC_tl {w0 : World} {r : Option (List Ch)} {e : Ending} {w' : World} (h : ∃ v n, e = .returned (.tuple #[v, .int .i64 n]) ∧ LsC w' v n r ∧ Below w0.heap.size w0 w') : TlC w0 (nC r) (r.getD []) e w' := by
  obtain ⟨v, n, rfl, hl, k⟩ := h
  obtain ⟨rfl, A, c, rfl, hr⟩ := lsC_form hl
  exact ⟨A, c, rfl, hr, k⟩
theorem readC_len {b : Bs} : ((readL codC b).getD []).length ≤ 64 := by
  cases e : readL codC b with
  | none => simp
  | some l => exact (writeL_some codC (readL_inv codC e).1).2.1
def nE (r : Option (List En)) : Int := match r with | some _ => 0 | none => 120
/-- A list told: a row that reads as it. -/
theorem lsE_form {w : World} {v : Value} {n : Int} {r : Option (List En)} (h : LsE w v n r) : n = nE r ∧ ∃ A c, v = .slice A (r.getD []).length c ∧ RdK enK w w.heap.size A (r.getD []) := by
  cases h with
  | yes A c l h => exact ⟨rfl, A, c, rfl, h⟩
  | no => exact ⟨rfl, none, 0, rfl, .inl rfl⟩
def TlE (w0 : World) (n : Int) (l : List En) (e : Ending) (w' : World) : Prop := ∃ A c, e = .returned (.tuple #[.slice A l.length c, .int .i64 n]) ∧ RdK enK w' w'.heap.size A l ∧ Below w0.heap.size w0 w'
theorem lsE_tl {w0 : World} {r : Option (List En)} {e : Ending} {w' : World} (h : ∃ v n, e = .returned (.tuple #[v, .int .i64 n]) ∧ LsE w' v n r ∧ Below w0.heap.size w0 w') : TlE w0 (nE r) (r.getD []) e w' := by
  obtain ⟨v, n, rfl, hl, k⟩ := h
  obtain ⟨rfl, A, c, rfl, hr⟩ := lsE_form hl
  exact ⟨A, c, rfl, hr, k⟩
theorem readE_len {b : Bs} : ((readL codE b).getD []).length ≤ 64 := by
  cases e : readL codE b with
  | none => simp
  | some l => exact (writeL_some codE (readL_inv codE e).1).2.1
set_option maxHeartbeats 8000000 in
theorem reads_walk (A : Option Addr) (c : Nat) (b : Bs) (w : World) (h : RdK u8K w w.heap.size A b) (hA : A = none → c = 0) (hc : b.length ≤ c) :
    Calls Tryz.prog 3 #[.slice A b.length c] w fun e w' => e = .returned (.bool true) ∧ Below w.heap.size w w' := by
  by_cases hb : 3000 < b.length
  · have i1 : (3000 : Int) < (b.length : Int) := by omega
    clear h
    go_enter Tryz.func3, Tryz.ntmps3
    go_wp2
    go_ret
    exact ⟨rfl, Below.refl _ _⟩
  · have i1 : ¬ (3000 : Int) < (b.length : Int) := by omega
    have HR := Lib.hid h
    have B0 := Lib.hid (bAl (Below.refl w.heap.size w) (.cells #[] 5))
    have PO := Lib.hid (fun W A2 c2 (q : RdK u8K W W.heap.size A2 b) (q0 : A2 = none → c2 = 0) => (rlawO_any A2 c2 b W q (by omega) q0).mono fun _ _ => lsO_tl)
    have RO := Lib.hid (fun W (q : Below w.heap.size w W) => (refReadObjects_any A c b W ((h.below q).more q.size) (by omega) hc).mono fun _ _ => lsO_tl)
    have LO := Lib.hid (readO_len (b := b))
    have PC := Lib.hid (fun W A2 c2 (q : RdK u8K W W.heap.size A2 b) (q0 : A2 = none → c2 = 0) => (rlawC_any A2 c2 b W q (by omega) q0).mono fun _ _ => lsC_tl)
    have RC := Lib.hid (fun W (q : Below w.heap.size w W) => (refReadSet_any A c b W ((h.below q).more q.size) (by omega) hc).mono fun _ _ => lsC_tl)
    have LC := Lib.hid (readC_len (b := b))
    have PE := Lib.hid (fun W A2 c2 (q : RdK u8K W W.heap.size A2 b) (q0 : A2 = none → c2 = 0) => (rlawE_any A2 c2 b W q (by omega) q0).mono fun _ _ => lsE_tl)
    have RE := Lib.hid (fun W (q : Below w.heap.size w W) => (refReadEntries_any A c b W ((h.below q).more q.size) (by omega) hc).mono fun _ _ => lsE_tl)
    have LE := Lib.hid (readE_len (b := b))
    clear h
    generalize readL codO b = rO at *
    generalize nO rO = nO at *
    generalize rO.getD [] = lO at *
    generalize readL codC b = rC at *
    generalize nC rC = nC at *
    generalize rC.getD [] = lC at *
    generalize readL codE b = rE at *
    generalize nE rE = nE at *
    generalize rE.getD [] = lE at *
    go_enter Tryz.func3, Tryz.ntmps3
    go_upto_region 4 with (at_builtin; refine wpList_spreadK u8K rfl (.tmp 19) (.tmp 20) rfl w.heap.size _ [] rfl (OwnK.lit _ _ (Nat.le_refl _)) w.heap.size A b.length c b rfl rfl (HR.out.below B0.out) ?c1 ?c2 ?_)
    case c1 => (first | omega | (simp; omega))
    intro v1 w1 o1 g1 f1
    have K1 := Lib.hid (B0.out.grown g1 (by simp) (fun a ha => by simp [Value.ownBlock] at ha; omega))

    obtain ⟨Am, cm, rfl, rm, hcm, _⟩ := o1.form
    have RM := Lib.hid rm
    have HM0 : Hid (Am = none → cm = 0) := Lib.hid (fun q => by
      rcases o1.2 with ⟨e, _⟩ | ⟨g, cap, cur, e, _⟩
      · simp only [Value.slice.injEq] at e; exact e.2.2
      · simp only [Value.slice.injEq] at e; rw [q] at e; cases e.1)
    clear o1 g1 rm hcm
    go_wp2_with (first
      | (go_at_call 8; ((refine (PO.out _ Am cm RM.out HM0.out).mono ?_); rintro e w2 ⟨A2, c2, rfl, r2, k2⟩; have RMx := Lib.hid ((RM.out.below k2).more k2.size); clear RM; have RM := RMx; clear RMx; have XO1 := Lib.hid r2; have K2 := Lib.hid (bThen K1.out k2); clear k2 r2))
      | (go_at_call 9; ((refine (RO.out _ K2.out).mono ?_); rintro e w3 ⟨A3, c3, rfl, r3, k3⟩; have RMx := Lib.hid ((RM.out.below k3).more k3.size); clear RM; have RM := RMx; clear RMx; replace XO1 := Lib.hid ((XO1.out.below k3).more k3.size); have XO2 := Lib.hid r3; have K3 := Lib.hid (bThen K2.out k3); clear k3 r3))
      | (go_at_call 10; ((refine (PC.out _ Am cm RM.out HM0.out).mono ?_); rintro e w4 ⟨A4, c4, rfl, r4, k4⟩; have RMx := Lib.hid ((RM.out.below k4).more k4.size); clear RM; have RM := RMx; clear RMx; replace XO1 := Lib.hid ((XO1.out.below k4).more k4.size); replace XO2 := Lib.hid ((XO2.out.below k4).more k4.size); have XC1 := Lib.hid r4; have K4 := Lib.hid (bThen K3.out k4); clear k4 r4))
      | (go_at_call 11; ((refine (RC.out _ K4.out).mono ?_); rintro e w5 ⟨A5, c5, rfl, r5, k5⟩; have RMx := Lib.hid ((RM.out.below k5).more k5.size); clear RM; have RM := RMx; clear RMx; replace XO1 := Lib.hid ((XO1.out.below k5).more k5.size); replace XO2 := Lib.hid ((XO2.out.below k5).more k5.size); replace XC1 := Lib.hid ((XC1.out.below k5).more k5.size); have XC2 := Lib.hid r5; have K5 := Lib.hid (bThen K4.out k5); clear k5 r5))
      | (go_at_call 12; ((refine (PE.out _ Am cm RM.out HM0.out).mono ?_); rintro e w6 ⟨A6, c6, rfl, r6, k6⟩; have RMx := Lib.hid ((RM.out.below k6).more k6.size); clear RM; have RM := RMx; clear RMx; replace XO1 := Lib.hid ((XO1.out.below k6).more k6.size); replace XO2 := Lib.hid ((XO2.out.below k6).more k6.size); replace XC1 := Lib.hid ((XC1.out.below k6).more k6.size); replace XC2 := Lib.hid ((XC2.out.below k6).more k6.size); have XE1 := Lib.hid r6; have K6 := Lib.hid (bThen K5.out k6); clear k6 r6))
      | (go_at_call 13; ((refine (RE.out _ K6.out).mono ?_); rintro e w7 ⟨A7, c7, rfl, r7, k7⟩; have RMx := Lib.hid ((RM.out.below k7).more k7.size); clear RM; have RM := RMx; clear RMx; replace XO1 := Lib.hid ((XO1.out.below k7).more k7.size); replace XO2 := Lib.hid ((XO2.out.below k7).more k7.size); replace XC1 := Lib.hid ((XC1.out.below k7).more k7.size); replace XC2 := Lib.hid ((XC2.out.below k7).more k7.size); replace XE1 := Lib.hid ((XE1.out.below k7).more k7.size); have XE2 := Lib.hid r7; have K7 := Lib.hid (bThen K6.out k7); clear k7 r7))
      | (go_at_call 14; ((refine (sameO_yes A2 A3 c2 c3 lO.length lO w7 XO1.out XO2.out rfl (by have := LO.out; omega)).mono ?_); rintro e w8 ⟨rfl, k8⟩; replace XC1 := Lib.hid ((XC1.out.below k8).more k8.size); replace XC2 := Lib.hid ((XC2.out.below k8).more k8.size); replace XE1 := Lib.hid ((XE1.out.below k8).more k8.size); replace XE2 := Lib.hid ((XE2.out.below k8).more k8.size); replace RM := Lib.hid ((RM.out.below k8).more k8.size); have K8 := Lib.hid (bThen K7.out k8); clear k8))
      | (go_at_call 15; ((refine (sameC_yes A4 A5 c4 c5 lC.length lC w8 XC1.out XC2.out rfl (by have := LC.out; omega)).mono ?_); rintro e w9 ⟨rfl, k9⟩; replace XE1 := Lib.hid ((XE1.out.below k9).more k9.size); replace XE2 := Lib.hid ((XE2.out.below k9).more k9.size); replace RM := Lib.hid ((RM.out.below k9).more k9.size); have K9 := Lib.hid (bThen K8.out k9); clear k9))
      | (go_at_call 16; ((refine (sameE_yes A6 A7 c6 c7 lE.length lE w9 XE1.out XE2.out rfl (by have := LE.out; omega)).mono ?_); rintro e w10 ⟨rfl, k10⟩; have cv1 := YX.conv_str (c := cm) ((RM.out.below k10).more k10.size) rfl; have cv2 := YX.conv_str (c := c) ((HR.out.below (bThen K9.out k10)).more (bThen K9.out k10).size) rfl; have K10 := Lib.hid (bThen K9.out k10); clear k10)))
    go_ret
    exact ⟨by simp, K10.out⟩
end Go.Proofs.YtkgjgbenfpkekaaGreat.PX
