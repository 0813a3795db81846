/-
  PLAIN: '==' of two objects, of two changes, as one law for the walk.
-/
import Derived.Test.YtjocbokfdfdkeaaGreatLZ3
import Derived.Test.YtjocbokfdfdkeaaGreatLZPRest
import Derived.Deep.CutRange
import Derived.Deep.MidRow
import Derived.Test.YtjocbokfdfdkeaaGreatLZ5
namespace Go.Proofs.YtjocbokfdfdkeaaGreat.DX
open Go.RowKit HL
open WX (tl_ne bs_eq)
set_option maxRecDepth 100000
set_option linter.unusedVariables false
set_option linter.unusedSimpArgs false

theorem and_ob {a b : Ob} : eqOb a b = ((a.handle.toList == b.handle.toList) && ((a.kind : Int) == b.kind) && (a.parent.toList == b.parent.toList) && ((a.typ : Int) == b.typ) && (a.ref.toList == b.ref.toList) && (a.lo == b.lo) && (a.hi == b.hi) && ((a.digits : Int) == b.digits) && (a.on == b.on) && (a.has == b.has) && (a.value == b.value) && (a.low == b.low) && (a.high == b.high) && ((a.assoc : Int) == b.assoc)) := by
  rw [Bool.eq_iff_iff, eqOb_iff]
  simp only [str_b, u8_b, Bool.and_eq_true, beq_iff_eq, decide_eq_true_eq]
  obtain ⟨a0, a1, a2, a3, a4, a5, a6, a7, a8, a9, a10, a11, a12, a13⟩ := a
  obtain ⟨b0, b1, b2, b3, b4, b5, b6, b7, b8, b9, b10, b11, b12, b13⟩ := b
  simp [and_assoc]
theorem and_ch {a b : Ch} : eqCh a b = (((a.kind : Int) == b.kind) && eqOb a.o b.o) := by
  rw [Bool.eq_iff_iff, eqCh_iff, Bool.and_eq_true, eqOb_iff, u8_b, decide_eq_true_eq]
  obtain ⟨a0, a1⟩ := a
  obtain ⟨b0, b1⟩ := b
  simp
theorem if_ok (p : Prop) [Decidable p] (r : Bool) (W : World) : (if p then Result.ok r W else Result.ok false W) = Result.ok (decide p && r) W := by
  by_cases h : p <;> simp [h]
set_option maxHeartbeats 4000000 in
theorem run_eqOb (W : World) (a b : Ob) : (Op.equalIn 10000 24 (ob a) (ob b)).run Tryz.prog W = .ok (eqOb a b) W := by
  rw [and_ob]
  go_simp
  have e : ∀ r : Bool, (if (a.assoc : Int) = b.assoc then Result.ok true W else Result.ok false W) = Result.ok (decide ((a.assoc : Int) = b.assoc)) W := fun _ => by by_cases h : (a.assoc : Int) = b.assoc <;> simp [h]
  rw [e true]
  simp only [if_ok]
  congr 1
  simp only [Bool.beq_eq_decide_eq, Bool.and_assoc]
set_option maxHeartbeats 4000000 in
theorem run_eqCh (W : World) (a b : Ch) : (Op.equalIn 10000 26 (ch a) (ch b)).run Tryz.prog W = .ok (eqCh a b) W := by
  rw [and_ch, and_ob]
  go_simp
  have e : ∀ r : Bool, (if (a.o.assoc : Int) = b.o.assoc then Result.ok true W else Result.ok false W) = Result.ok (decide ((a.o.assoc : Int) = b.o.assoc)) W := fun _ => by by_cases h : (a.o.assoc : Int) = b.o.assoc <;> simp [h]
  rw [e true]
  simp only [if_ok]
  congr 1
  simp only [Bool.beq_eq_decide_eq, Bool.and_assoc]
end Go.Proofs.YtjocbokfdfdkeaaGreat.DX
/-
  PLAIN: rows of entries as a list: a kind of element of 18 cells; two entries compared.
-/
namespace Go.Proofs.YtjocbokfdfdkeaaGreat.PX
open Go.RowKit HL
open IX (ptr El cellsK cellsK_at cellsK_len OwnK RdK Kept)
set_option maxRecDepth 100000
set_option linter.unusedVariables false
set_option linter.unusedSimpArgs false

noncomputable def enK : El En where
  T := 31
  e := 90
  size := 18
  bytes := (IX.infoOf 90).bytes
  z := en zeroEn
  i := IX.infoOf 90
  enc := fun e => (enC e).toList
  el := by kernel_rfl
  ht := Tryz.underlying31
  hi := by kernel_rfl
  hz := by kernel_rfl
  hs := by kernel_rfl
  hb := rfl
  hzs := rfl
  pos := by decide
  len := fun _ => rfl
  one := fun _ u hu => by simp at hu; rcases hu with rfl | rfl | rfl | rfl | rfl | rfl | rfl | rfl | rfl | rfl | rfl | rfl | rfl | rfl | rfl | rfl | rfl | rfl <;> rfl
  small := of_decide_eq_true (by kernel_rfl)
theorem ens_at {w : World} {B : Nat} {A : Option Addr} {l : List En} (h : RdK enK w B A l) (h0 : 0 < l.length) : ∃ b off, A = some ⟨b, off, none⟩ ∧ b < B ∧ ∀ j e, l[j]? = some e → w.cell? ⟨b, off + j * 18, none⟩ = some (.string e.handle) ∧ w.cell? ⟨b, off + j * 18 + 1, none⟩ = some (.bool e.there) ∧ w.cell? ⟨b, off + j * 18 + 2, none⟩ = some (.string e.o.handle) ∧ w.cell? ⟨b, off + j * 18 + 3, none⟩ = some (.int .u8 e.o.kind) ∧ w.cell? ⟨b, off + j * 18 + 4, none⟩ = some (.string e.o.parent) ∧ w.cell? ⟨b, off + j * 18 + 5, none⟩ = some (.int .u8 e.o.typ) ∧ w.cell? ⟨b, off + j * 18 + 6, none⟩ = some (.string e.o.ref) ∧ w.cell? ⟨b, off + j * 18 + 7, none⟩ = some (.int .i64 e.o.lo) ∧ w.cell? ⟨b, off + j * 18 + 8, none⟩ = some (.int .i64 e.o.hi) ∧ w.cell? ⟨b, off + j * 18 + 9, none⟩ = some (.int .u8 e.o.digits) ∧ w.cell? ⟨b, off + j * 18 + 10, none⟩ = some (.bool e.o.on) ∧ w.cell? ⟨b, off + j * 18 + 11, none⟩ = some (.bool e.o.has) ∧ w.cell? ⟨b, off + j * 18 + 12, none⟩ = some (.int .i64 e.o.value) ∧ w.cell? ⟨b, off + j * 18 + 13, none⟩ = some (.int .i64 e.o.low) ∧ w.cell? ⟨b, off + j * 18 + 14, none⟩ = some (.int .i64 e.o.high) ∧ w.cell? ⟨b, off + j * 18 + 15, none⟩ = some (.int .u8 e.o.assoc) ∧ w.cell? ⟨b, off + j * 18 + 16, none⟩ = some (.int .i64 e.desc) ∧ w.cell? ⟨b, off + j * 18 + 17, none⟩ = some (.int .i64 e.state) := by
  rcases h with rfl | ⟨b, off, e, hb, hc⟩
  · simp at h0
  · refine ⟨b, off, e, hb, fun j e hx => ?_⟩
    have q : ∀ (i : Nat) (u : Value), (enC e)[i]? = some u → w.cell? ⟨b, off + j * 18 + i, none⟩ = some u := fun i u hu => by
      have := hc _ _ (cellsK_at enK hx (i := i) (u := u) (by rw [← hu]; exact Array.getElem?_toList))
      rw [Nat.add_assoc]; exact this
    exact ⟨q 0 _ rfl, q 1 _ rfl, q 2 _ rfl, q 3 _ rfl, q 4 _ rfl, q 5 _ rfl, q 6 _ rfl, q 7 _ rfl, q 8 _ rfl, q 9 _ rfl, q 10 _ rfl, q 11 _ rfl, q 12 _ rfl, q 13 _ rfl, q 14 _ rfl, q 15 _ rfl, q 16 _ rfl, q 17 _ rfl⟩
end Go.Proofs.YtjocbokfdfdkeaaGreat.PX
/-
  WALKS: GetEntry.
-/
namespace Go.Proofs.YtjocbokfdfdkeaaGreat.PX
open Go.RowKit HL
open IX (ptr El cellsK cellsK_at cellsK_len OwnK RdK Kept)
open YX (numB rdU rdB rdT rdS rdI addW intN natI rest told WAt WPt Wr RAt vS vU vI)
open DX (Ch chCells ch zeroCh)
set_option maxRecDepth 100000
set_option linter.unusedVariables false
set_option linter.unusedSimpArgs false

theorem setCells_st (B : Nat) : ∀ (vs : List Value) (off : Nat) (W : World), W.setCells B off vs = stC W B off vs
  | [], off, W => rfl
  | v :: vs, off, W => setCells_st B vs (off + 1) _
set_option maxHeartbeats 8000000 in
theorem getEntry_any (Br : Nat) (s : Option Bs) (w : World) (hr : RAt w Br s) :
    Calls Tryz.prog 122 #[ptr Br] w fun e w' => Rdr w Br (en (getE s).1) (getE s).2 e w' := by
  have hBr := hr.lt
  have hb := bAl (bAl (Below.refl w.heap.size w) (.cells (enC zeroEn) 90)) (.cells (enC zeroEn) 90)
  have HR := Lib.hid (hr.below hb)
  have HB := Lib.hid ((AtC.new w (enC zeroEn) 90).al (.cells (enC zeroEn) 90))
  have HE := Lib.hid (AtC.newAt (w := w.alloc (.cells (enC zeroEn) 90)) (B := w.heap.size + 1) (C := enC zeroEn) (T := 90) (by simp))
  have HBL := Lib.hid hb
  have CT := fun (W : World) (q : RAt W Br s) => YX.text_any2 Br s W q
  have CB := fun (W : World) (q : RAt W Br (rest rdS s)) => YX.truth_any2 Br (rest rdS s) W q
  have CO := fun (W : World) (q : RAt W Br (rest rdT (rest rdS s))) => getObject_any Br (rest rdT (rest rdS s)) W q
  obtain ⟨t, ht⟩ : ∃ t, told [] rdS s = t := ⟨_, rfl⟩
  obtain ⟨s1, hs1⟩ : ∃ s1, rest rdS s = s1 := ⟨_, rfl⟩
  obtain ⟨b, hb1⟩ : ∃ b, (told 0 rdT s1 == 1) = b := ⟨_, rfl⟩
  obtain ⟨s2, hs2⟩ : ∃ s2, rest rdT s1 = s2 := ⟨_, rfl⟩
  obtain ⟨⟨o, s3⟩, hq⟩ : ∃ q, getO s2 = q := ⟨_, rfl⟩
  have CS := fun (W : World) (q : RAt W Br s3) => getStamp_any Br s3 W q
  obtain ⟨d, hd⟩ : ∃ d, told (0 : Int) rdI s3 = d := ⟨_, rfl⟩
  obtain ⟨s4, hs4⟩ : ∃ s4, rest rdI s3 = s4 := ⟨_, rfl⟩
  obtain ⟨st, hst⟩ : ∃ st, told (0 : Int) rdI s4 = st := ⟨_, rfl⟩
  obtain ⟨s5, hs5⟩ : ∃ s5, rest rdI s4 = s5 := ⟨_, rfl⟩
  have HQ : Hid (getE s = (⟨bt t, b, o, d, st⟩, s5)) := Lib.hid (by unfold getE e4 e3 e2 e1; rw [hs1, hs2, hq]; simp only; rw [hs4, hs5, ht, hb1, hd, hst])
  rw [ht, hs1] at CT
  rw [hs1] at CB
  simp only [hb1, hs2] at CB
  rw [hs1, hs2, hq] at CO
  rw [hd, hs4, hst, hs5] at CS
  replace CT := Lib.hid CT
  replace CB := Lib.hid CB
  replace CO := Lib.hid CO
  replace CS := Lib.hid CS
  clear hr hb ht hs1 hb1 hs2 hq hd hs4 hst hs5
  go_enter Tryz.func122, Tryz.ntmps122
  go_upto_region 6 with (first
    | (go_at_call 89; ((refine (CT.out _ HR.out).mono ?_); rintro e w2 ⟨rfl, r2, k2⟩; have m2 := HE.out.kept k2 (show w.heap.size + 1 ≠ Br by omega); have m2c := m2.c; have m2f := m2.f; have m2l := m2.lt; have N2 : Hid (AtC _ (w.heap.size + 1) (enC ⟨bt t, false, zeroOb, 0, 0⟩)) := Lib.hid (at_mid [vS t] [] [.string ⟨#[]⟩] ((.bool false :: (obCells zeroOb).toList) ++ [.int .i64 0, .int .i64 0]) w2 m2 rfl); have HR2 := Lib.hid (r2.other (B2 := w.heap.size + 1) ((Kept.refl _ _).set (B := w.heap.size + 1) (i := 0) (fun _ q => q rfl) (vS t)) (by omega)); have K2 := Lib.hid ((Kept.trans (.of_below HBL.out) k2).set (B := w.heap.size + 1) (i := 0) (fun q => absurd q (by omega)) (vS t)); have M2 := Lib.hid ((HB.out.kept k2 (show w.heap.size ≠ Br by omega)).store (p := ⟨w.heap.size + 1, 0, none⟩) (by simp) (vS t)); clear r2 k2))
    | (go_at_call 93; ((refine (CB.out _ HR2.out).mono ?_); rintro e w3 ⟨rfl, r3, k3⟩; have m3 := N2.out.kept k3 (show w.heap.size + 1 ≠ Br by omega); have m3c := m3.c; have m3f := m3.f; have m3l := m3.lt; have N3 : Hid (AtC _ (w.heap.size + 1) (enC ⟨bt t, b, zeroOb, 0, 0⟩)) := Lib.hid (at_mid [.bool b] [vS t] [.bool false] ((obCells zeroOb).toList ++ [.int .i64 0, .int .i64 0]) w3 m3 rfl); have HR3 := Lib.hid (r3.other (B2 := w.heap.size + 1) ((Kept.refl _ _).set (B := w.heap.size + 1) (i := 1) (fun _ q => q rfl) (.bool b)) (by omega)); have K3 := Lib.hid ((K2.out.trans k3).set (B := w.heap.size + 1) (i := 1) (fun q => absurd q (by omega)) (.bool b)); have M3 := Lib.hid ((M2.out.kept k3 (show w.heap.size ≠ Br by omega)).store (p := ⟨w.heap.size + 1, 1, none⟩) (by simp) (.bool b)); clear r3 k3))
    | (go_at_call 114; ((refine (CO.out _ HR3.out).mono ?_); rintro e w4 ⟨rfl, r4, k4⟩; have m4 := N3.out.kept k4 (show w.heap.size + 1 ≠ Br by omega); have m4c := m4.c; have m4f := m4.f; have m4l := m4.lt; have N4 : Hid (AtC (stC w4 (w.heap.size + 1) 2 (obCells o).toList) (w.heap.size + 1) (enC ⟨bt t, b, o, 0, 0⟩)) := Lib.hid (at_mid (obCells o).toList [vS t, .bool b] (obCells zeroOb).toList [.int .i64 0, .int .i64 0] w4 m4 rfl); have HR4 := Lib.hid (r4.other (B2 := w.heap.size + 1) (kept_stC (fun _ h => h rfl) (obCells o).toList 2 w4 (Kept.refl _ _)) (by omega)); have K4 := Lib.hid (kept_stC (B := w.heap.size + 1) (fun h => absurd h (by omega)) (obCells o).toList 2 w4 (K3.out.trans k4)); have M4 := Lib.hid (at_store (obCells o).toList 2 w4 _ (show w.heap.size ≠ w.heap.size + 1 by omega) (M3.out.kept k4 (show w.heap.size ≠ Br by omega))); clear r4 k4))
    | (go_at_call 133; ((refine (CS.out _ HR4.out).mono ?_); rintro e w5 ⟨rfl, r5, k5⟩; have m5 := N4.out.kept k5 (show w.heap.size + 1 ≠ Br by omega); have m5c := m5.c; have m5f := m5.f; have m5l := m5.lt; have N5 : Hid (AtC (stC w5 (w.heap.size + 1) 16 [.int .i64 d, .int .i64 st]) (w.heap.size + 1) (enC ⟨bt t, b, o, d, st⟩)) := Lib.hid (at_mid [.int .i64 d, .int .i64 st] (vS t :: .bool b :: (obCells o).toList) [.int .i64 0, .int .i64 0] [] w5 m5 rfl); have n5 : AtC ((w5.setCell ⟨w.heap.size + 1, 16, none⟩ (.int .i64 d)).setCell ⟨w.heap.size + 1, 17, none⟩ (.int .i64 st)) (w.heap.size + 1) (enC ⟨bt t, b, o, d, st⟩) := N5.out;  have HR5 := Lib.hid (r5.other (B2 := w.heap.size + 1) (kept_stC (fun _ h => h rfl) [.int .i64 d, .int .i64 st] 16 w5 (Kept.refl _ _)) (by omega)); have K5 := Lib.hid (kept_stC (B := w.heap.size + 1) (fun h => absurd h (by omega)) [.int .i64 d, .int .i64 st] 16 w5 (K4.out.trans k5)); have M5 := Lib.hid (at_store [.int .i64 d, .int .i64 st] 16 w5 _ (show w.heap.size ≠ w.heap.size + 1 by omega) (M4.out.kept k5 (show w.heap.size ≠ Br by omega))); have m6 : AtC ((w5.setCell ⟨w.heap.size + 1, 16, none⟩ (.int .i64 d)).setCell ⟨w.heap.size + 1, 17, none⟩ (.int .i64 st)) w.heap.size (enC zeroEn) := M5.out;have HR6 : Hid (RAt ((w5.setCell ⟨w.heap.size + 1, 16, none⟩ (.int .i64 d)).setCell ⟨w.heap.size + 1, 17, none⟩ (.int .i64 st)) Br s5) := HR5; have K6 : Hid (Kept w ((w5.setCell ⟨w.heap.size + 1, 16, none⟩ (.int .i64 d)).setCell ⟨w.heap.size + 1, 17, none⟩ (.int .i64 st)) (· ≠ Br)) := K5; clear r5 k5)))
  clear HR HB HE HBL CT CB CO CS HR2 HR3 HR4 HR5 K2 K3 K4 K5 M2 M3 M4 M5 N2 N3 N4 N5
  clear m2 m2c m2f m2l m3 m3c m3f m3l m4 m4c m4f m4l m5 m5c m5f m5l
  generalize ((w5.setCell ⟨w.heap.size + 1, 16, none⟩ (.int .i64 d)).setCell ⟨w.heap.size + 1, 17, none⟩ (.int .i64 st)) = W5 at *
  have hc : W5.rangeAt (w.heap.size + 1) 0 (enC ⟨bt t, b, o, d, st⟩).toList := fun j v hv => by
    rw [Nat.zero_add, n5.c j, ← hv]; exact Array.getElem?_toList.symm
  have ht : W5.there w.heap.size 0 (enC ⟨bt t, b, o, d, st⟩).size := fun j hj => by
    rw [Nat.zero_add]
    refine ⟨?_, m6.f j⟩
    rw [m6.c j]
    have hj : j < 18 := hj
    have : j < (enC zeroEn).size := hj
    rw [Array.getElem?_eq_getElem this]; rfl
  have h1 : (enC ⟨bt t, b, o, d, st⟩).all (·.oneCell') = true := all_oneCell_toArray (fun v hv => by simp at hv; rcases hv with rfl | rfl | rfl | rfl | rfl | rfl | rfl | rfl | rfl | rfl | rfl | rfl | rfl | rfl | rfl | rfl | rfl | rfl <;> rfl)
  refine wp_region_list ?_
  refine wpList_load_mid rfl _ _ rfl (w.heap.size + 1) 0 rfl (enC ⟨bt t, b, o, d, st⟩).toList _ hc Tryz.underlying90 rfl (by kernel_rfl) ?_
  refine wpList_store_mid rfl _ _ _ rfl w.heap.size 0 (enC ⟨bt t, b, o, d, st⟩) rfl rfl ht (by kernel_rfl) h1 ?_
  have eS : W5.setCells w.heap.size 0 (enC ⟨bt t, b, o, d, st⟩).toList = stC W5 w.heap.size 0 (enC ⟨bt t, b, o, d, st⟩).toList := setCells_st _ _ _ _
  rw [eS]
  have mF := at_all (enC zeroEn).toList (enC ⟨bt t, b, o, d, st⟩).toList m6 rfl
  have HF : Hid (RAt (stC W5 w.heap.size 0 (enC ⟨bt t, b, o, d, st⟩).toList) Br s5) := Lib.hid (RAt.other (B2 := w.heap.size) HR6.out (kept_stC (fun _ h => h rfl) _ 0 W5 (Kept.refl _ _)) hBr)
  have KF : Hid (Kept w (stC W5 w.heap.size 0 (enC ⟨bt t, b, o, d, st⟩).toList) (· ≠ Br)) := Lib.hid (kept_stC (fun h => absurd h (by omega)) _ 0 W5 K6.out)
  clear eS hc ht h1 n5 m6
  generalize stC W5 w.heap.size 0 (enC ⟨bt t, b, o, d, st⟩).toList = W6 at *
  go_wp2
  refine ret_row (C := enC ⟨bt t, b, o, d, st⟩) (B := w.heap.size) rfl rfl rfl mF (by kernel_rfl) (by kernel_rfl) ⟨by rw [HQ.out], ?_, ?_⟩
  · rw [HQ.out]; exact HF.out
  · exact KF.out
end Go.Proofs.YtjocbokfdfdkeaaGreat.PX
/-
  WALKS: a list written: write[api.Entry].
-/
namespace Go.Proofs.YtjocbokfdfdkeaaGreat.PX
open Go.RowKit HL
open IX (ptr El cellsK cellsK_at cellsK_len OwnK RdK Kept)
open YX (numB rdU rdB rdT rdS rdI addW intN natI rest told WAt WPt Wr RAt vS vU vI u8K Got)

set_option maxRecDepth 100000
set_option linter.unusedVariables false
set_option linter.unusedSimpArgs false

end Go.Proofs.YtjocbokfdfdkeaaGreat.PX
