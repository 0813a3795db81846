/-
  WALK: GetObject.
-/
import Derived.Test.YtjocbokfdfdkeaaGreatLZPPut
namespace Go.Proofs.YtjocbokfdfdkeaaGreat.PX
open Go.RowKit HL
open IX (ptr El cellsK cellsK_at cellsK_len OwnK RdK Kept)
open YX (numB rdU rdB rdT rdS rdI addW intN natI rest told WAt WPt Wr RAt vS vU vI)
set_option maxRecDepth 100000
set_option linter.unusedVariables false
set_option linter.unusedSimpArgs false

/-- What a reader's call comes to. -/
def Rdr (w0 : World) (Br : Nat) (v : Value) (s : Option Bs) (e : Ending) (w' : World) : Prop := e = .returned v ∧ RAt w' Br s ∧ Kept w0 w' (· ≠ Br)
theorem kFill {w W : World} {P : Nat → Prop} {B : Nat} (h : Kept w W P) (hB : B < w.heap.size → ¬ P B) (v0 v1 v2 v3 v4 v5 v6 v7 v8 v9 v10 v11 v12 v13 : Value) : Kept w ((((((((((((((W.setCell ⟨B, 0, none⟩ v0).setCell ⟨B, 1, none⟩ v1).setCell ⟨B, 2, none⟩ v2).setCell ⟨B, 3, none⟩ v3).setCell ⟨B, 4, none⟩ v4).setCell ⟨B, 5, none⟩ v5).setCell ⟨B, 6, none⟩ v6).setCell ⟨B, 7, none⟩ v7).setCell ⟨B, 8, none⟩ v8).setCell ⟨B, 9, none⟩ v9).setCell ⟨B, 10, none⟩ v10).setCell ⟨B, 11, none⟩ v11).setCell ⟨B, 12, none⟩ v12).setCell ⟨B, 13, none⟩ v13) P :=
  ((((((((((((((h.set (i := 0) hB v0).set (i := 1) hB v1).set (i := 2) hB v2).set (i := 3) hB v3).set (i := 4) hB v4).set (i := 5) hB v5).set (i := 6) hB v6).set (i := 7) hB v7).set (i := 8) hB v8).set (i := 9) hB v9).set (i := 10) hB v10).set (i := 11) hB v11).set (i := 12) hB v12).set (i := 13) hB v13)
theorem zeroFine : Fine zeroOb := by
  refine ⟨?_, ?_, ?_, ?_, ?_, ?_, ?_, ?_, ?_, ?_, ?_, ?_⟩ <;> simp [zeroOb, tx]
set_option maxHeartbeats 8000000 in
theorem getObject_any (Br : Nat) (s : Option Bs) (w : World) (hr : RAt w Br s) :
    Calls Tryz.prog 114 #[ptr Br] w fun e w' => Rdr w Br (ob (getO s).1) (getO s).2 e w' := by
  have hBr := hr.lt
  have b1 := bAl (bAl (Below.refl w.heap.size w) (.cells (obCells zeroOb) 24)) (.cells (obCells zeroOb) 24)
  have mR := (AtC.new w (obCells zeroOb) 24).al (.cells (obCells zeroOb) 24)
  have mO := AtC.newAt (w := w.alloc (.cells (obCells zeroOb) 24)) (B := w.heap.size + 1) (C := obCells zeroOb) (T := 24) (by simp)
  have HR0 := Lib.hid (hr.below b1)
  have B1 := Lib.hid b1
  have MR := Lib.hid mR
  have MO := Lib.hid mO
  have CB := Lib.hid (fun (W : World) (s : Option Bs) (q : RAt W Br s) => YX.octet_any2 Br s W q)
  have CT := Lib.hid (fun (W : World) (s : Option Bs) (q : RAt W Br s) => YX.text_any2 Br s W q)
  have CU := Lib.hid (fun (W : World) (s : Option Bs) (q : RAt W Br s) => YX.unsigned_any2 Br s W q)
  clear hr b1 mR mO
  go_enter Tryz.func114, Tryz.ntmps114
  go_wp2_with (first
    | (go_at_call 88; ((refine (CB.out _ _ HR0.out).mono ?_); rintro e w2 ⟨rfl, r2, k2⟩; have m2 := MO.out.kept k2 (by show w.heap.size + 1 ≠ Br; omega); have m2c := m2.c; have m2f := m2.f; have m2l := m2.lt; have n2 := Lib.hid (m2.set (i := 1) (by simp) (.int .u8 ((told (0 : Nat) rdB s : Nat) : Int))); have K2 := Lib.hid ((Kept.trans (.of_below B1.out) k2).set (B := w.heap.size + 1) (i := 1) (fun q => absurd q (by omega)) (.int .u8 ((told (0 : Nat) rdB s : Nat) : Int))); have k2b := Lib.hid k2; have HR2 := Lib.hid (r2.other (B2 := w.heap.size + 1) ((Kept.refl _ _).set (B := w.heap.size + 1) (i := 1) (fun _ q => q rfl) (.int .u8 ((told (0 : Nat) rdB s : Nat) : Int))) (by omega)); clear r2 k2))
    | (go_at_call 89; ((refine (CT.out _ _ HR2.out).mono ?_); rintro e w3 ⟨rfl, r3, k3⟩; have m3 := n2.out.kept k3 (by show w.heap.size + 1 ≠ Br; omega); have m3c := m3.c; have m3f := m3.f; have m3l := m3.lt; have n3 := Lib.hid (m3.set (i := 0) (by simp) (vS (told ([] : Bs) rdS (s1 s)))); have K3 := Lib.hid ((K2.out.trans k3).set (B := w.heap.size + 1) (i := 0) (fun q => absurd q (by omega)) (vS (told ([] : Bs) rdS (s1 s)))); have HR3 := Lib.hid (r3.other (B2 := w.heap.size + 1) ((Kept.refl _ _).set (B := w.heap.size + 1) (i := 0) (fun _ q => q rfl) (vS (told ([] : Bs) rdS (s1 s)))) (by omega)); have MR3 := Lib.hid (((MR.out.kept k2b.out (by show w.heap.size ≠ Br; omega)).store (p := ⟨w.heap.size + 1, 1, none⟩) (by simp) (.int .u8 ((told (0 : Nat) rdB s : Nat) : Int))).kept k3 (by show w.heap.size ≠ Br; omega) |>.store (p := ⟨w.heap.size + 1, 0, none⟩) (by simp) (vS (told ([] : Bs) rdS (s1 s)))); clear r3 k3))
    | (go_at_call 94; ((refine (CU.out _ _ HR3.out).mono ?_); rintro e w4 ⟨rfl, r4, k4⟩; have K4 := Lib.hid (K3.out.trans k4); have n4 := Lib.hid (n3.out.kept k4 (by show w.heap.size + 1 ≠ Br; omega)); have MR4 := Lib.hid (MR3.out.kept k4 (by show w.heap.size ≠ Br; omega)); have HR4 := Lib.hid r4; clear r4 k4; have e4 : ((obCells zeroOb).setIfInBounds 1 (.int .u8 ((told (0 : Nat) rdB s : Nat) : Int))).setIfInBounds 0 (vS (told ([] : Bs) rdS (s1 s))) = obCells (ob0 (told 0 rdB s) (told [] rdS (s1 s))) := rfl; have N4 : Hid (AtC w4 (w.heap.size + 1) (obCells (ob0 (told 0 rdB s) (told [] rdS (s1 s))))) := Lib.hid (by rw [← e4]; exact n4.out); clear e4 n4; have CF := Lib.hid (fields_any (w.heap.size + 1) _ w4 N4.out (ob0_fine s))))
    | (go_at_call 123; ((refine CF.out.mono ?_); rintro e w5 ⟨g, l, rfl, hl, fl, hg, hrd, k5⟩; have HL := Lib.hid hl; have HFL := Lib.hid fl; have HR := Lib.hid hrd; have HR5 : Hid (RAt w5 Br (s3 s)) := Lib.hid (HR4.out.below k5); have N5 := Lib.hid (N4.out.then k5); have MR5 := Lib.hid (MR4.out.then k5); have K5 := Lib.hid (K4.out.then k5); have hl4 := N4.out.lt; have hg5 : w.heap.size + 1 < g := (by omega); clear hl fl hrd k5)))
  have hm : told 0 rdU (s2 s) < 18446744073709551616 := YX.told_lt _
  have eG : getTo (told 0 rdU (s2 s)) (ob0 (told 0 rdB s) (told [] rdS (s1 s)), s3 s) 12 = getO s := rfl
  have HR6 : Hid (RAt w5 Br (getTo (told 0 rdU (s2 s)) (ob0 (told 0 rdB s) (told [] rdS (s1 s)), s3 s) 0).2) := HR5
  have N6 : Hid (AtC w5 (w.heap.size + 1) (obCells (getTo (told 0 rdU (s2 s)) (ob0 (told 0 rdB s) (told [] rdS (s1 s)), s3 s) 0).1)) := N5
  have HG := Lib.hid eG
  clear HR0 MR MO CB CT CU n2 K2 k2b HR2 m2 m2c m2f m2l m3 m3c m3f m3l n3 K3 HR3 MR3 K4 MR4 HR4 N4 CF HR5 N5 hl4 eG
  have e9 : rest rdS (rest rdB s) = s2 s := rfl
  rw [e9]
  clear e9
  generalize told 0 rdU (s2 s) = m at *
  generalize hp : (ob0 (told 0 rdB s) (told [] rdS (s1 s)), s3 s) = p at *
  clear hp
  go_loopw [17] (fun i wr => ∃ k : Nat, i = .int .i64 k ∧ k ≤ 12 ∧ Hid (RAt wr Br (getTo m p k).2) ∧ Hid (AtC wr (w.heap.size + 1) (obCells (getTo m p k).1)) ∧ Kept w5 wr (fun j => j ≠ Br ∧ j ≠ w.heap.size + 1)) (fun i _ => 12 - (intOf i).toNat)
  case atStart => exact ⟨0, rfl, by omega, HR6, N6, Kept.refl _ _⟩
  case round =>
    obtain ⟨k, rfl, hk, HRr, HNr, k7⟩ := hrel
    have K7 := Lib.hid k7
    by_cases hlt : k < 12
    · have i1 : (k : Int) < 12 := by omega
      obtain ⟨f, hf⟩ : ∃ f, l[k]? = some f := ⟨_, List.getElem?_eq_getElem (by rw [HL.out]; exact hlt)⟩
      have hFd := HFL.out k f hf
      obtain ⟨hgl, hcc⟩ := fds_at HR.out (by rw [HL.out]; omega)
      obtain ⟨q0, q1, q2⟩ := hcc k f hf
      have hne : g ≠ Br ∧ g ≠ w.heap.size + 1 := ⟨by omega, by omega⟩
      replace q0 := (k7.cell hgl hne).trans q0
      replace q1 := (k7.cell hgl hne).trans q1
      replace q2 := (k7.cell hgl hne).trans q2
      have hgr := Nat.lt_of_lt_of_le hgl k7.size
      have HN := Lib.hid (getTo_succ m p k)
      have h2k : 2 ^ k ≤ 2048 := Nat.pow_le_pow_right (by decide) (show k ≤ 11 by omega)
      have hsh : IntKind.u64.wrap ((2 : Int) ^ k) = (2 : Int) ^ k := by
        rw [show ((2 : Int) ^ k) = ((2 ^ k : Nat) : Int) by simp]; exact YX.wU (by omega)
      obtain ⟨c, hc⟩ : ∃ c : Nat, m &&& 2 ^ k = c := ⟨_, rfl⟩
      have hand : bits .and .u64 (m : Int) ((2 : Int) ^ k) = (c : Int) := by rw [show ((2 : Int) ^ k) = ((2 ^ k : Nat) : Int) by simp, u64_and_nat m (2 ^ k) hm (by omega), hc]
      have hbit := and_pow m k
      rw [hc] at hbit
      clear hcc hc k7
      cases hb : m.testBit k with
      | false =>
        have hc0 : c = 0 := hbit.2 hb
        subst hc0
        have HS : Hid (getTo m p (k + 1) = getTo m p k) := Lib.hid (by rw [HN.out]; unfold stepF; rw [hb]; rfl)
        clear hbit hb hFd
        go_wp2
        go_roundw
        case rel => exact ⟨k + 1, by go_num, by omega, Lib.hid (by rw [HS.out]; exact HRr.out.below (bAl (Below.refl _ _) _)), Lib.hid (by rw [HS.out]; exact HNr.out.al _), K7.out.al _⟩
        case measure => simp [intOf]; omega
      | true =>
        have hc0 : ¬ (c : Int) = 0 := fun q => by
          have q : c = 0 := by omega
          rw [hbit.1 q] at hb; cases hb
        have HS : Hid (getTo m p (k + 1) = (setF (getTo m p k).1 k (rdV k (getTo m p k).2).1, (rdV k (getTo m p k).2).2)) := Lib.hid (by rw [HN.out]; unfold stepF; rw [hb]; rfl)
        have hent := hFd.e2
        have bn := bAl (Below.refl wr.heap.size wr) (.cells #[.bool f.z, .func (.func f.p1) #[] #[ptr f.b1, ptr f.b0], .func (.func f.p2) #[] #[ptr f.b2, ptr f.b0]] 177)
        have CG := Lib.hid (hFd.get _ Br (getTo m p k).2 _ (K7.out.trans (.of_below bn)) (by omega) (HRr.out.below bn) (HNr.out.then bn) rfl)
        have HE := Lib.hid (cells_set (getTo m p k).1 hlt (getTo m p k).2)
        have BN := Lib.hid bn
        unfold Ent at hent
        clear hb hbit hFd bn
        generalize f.z = fz at *
        generalize f.p1 = p1 at *
        generalize f.b1 = b1 at *
        generalize f.b0 = b0 at *
        generalize f.p2 = p2 at *
        generalize f.b2 = b2 at *
        go_wp2_with ((refine CG.out.mono ?_); rintro e w8 ⟨rfl, r8, n8, k8⟩; have HR8 := Lib.hid r8; have N8 := Lib.hid n8; have K8 := Lib.hid (K7.out.trans (Kept.trans (.of_below BN.out) k8)); clear r8 n8 k8)
        go_roundw
        case rel => exact ⟨k + 1, by go_num, by omega, Lib.hid (by rw [HS.out]; exact HR8.out), Lib.hid (by rw [HS.out]; rw [← HE.out]; exact N8.out), K8.out⟩
        case measure => simp [intOf]; omega
    · obtain rfl : k = 12 := by omega
      have i1 : ¬ ((12 : Nat) : Int) < 12 := by omega
      rw [HG.out] at HRr HNr
      obtain ⟨q, hq⟩ : ∃ q, getO s = q := ⟨_, rfl⟩
      rw [hq] at HRr HNr
      have HQ := Lib.hid hq
      clear hq HG
      have mc := HNr.out.c
      have mR := MR5.out.kept (P := fun j => j ≠ Br ∧ j ≠ w.heap.size + 1) k7 ⟨by omega, by omega⟩
      have mRc := mR.c
      have mRf := mR.f
      have mRl := mR.lt
      go_wp2
      have hKw : Kept w wr (· ≠ Br) := K5.out.trans' K7.out (fun i hi h => ⟨h, by omega⟩)
      refine ret_ob (o := q.1) rfl rfl rfl (AtC.fill mR rfl _ _ _ _ _ _ _ _ _ _ _ _ _ _) ⟨by rw [HQ.out], ?_, ?_⟩
      · rw [HQ.out]
        refine RAt.other (B2 := w.heap.size) HRr.out ?_ hBr
        exact kFill (Kept.refl _ _) (fun _ h => h rfl) _ _ _ _ _ _ _ _ _ _ _ _ _ _
      · exact kFill hKw (fun h => absurd h (by omega)) _ _ _ _ _ _ _ _ _ _ _ _ _ _
end Go.Proofs.YtjocbokfdfdkeaaGreat.PX
