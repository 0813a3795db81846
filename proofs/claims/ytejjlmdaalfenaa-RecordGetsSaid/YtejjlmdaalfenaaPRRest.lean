/-
  WALKS: the document's GetChange and GetEntry; Left of a reader.
-/
import Derived.Test.YtejjlmdaalfenaaPRGet
import Derived.Test.YtejjlmdaalfenaaPGetEn
namespace Go.Proofs.Ytejjlmdaalfenaa.PX
open Go.RowKit HL
open IX (ptr El cellsK cellsK_at cellsK_len OwnK RdK Kept)
open YX (numB rdU rdB rdT rdS rdI addW intN natI rest told WAt WPt Wr RAt vS vU vI Lim)
open DX (Ch chCells ch zeroCh)
set_option maxRecDepth 100000
set_option linter.unusedVariables false
set_option linter.unusedSimpArgs false

theorem lim_getO {s : Option Bs} (h : Lim s) : Lim (getO s).2 := lim_get (lim_rest lenU (lim_rest lenS (lim_rest lenB h))) 12
set_option maxHeartbeats 8000000 in
theorem rGetChange_any (Br : Nat) (s : Option Bs) (w : World) (hs : Lim s) (hr : RAt w Br s) :
    Calls Try.prog 19 #[ptr Br] w fun e w' => Rdr w Br (ch (getC s).1) (getC s).2 e w' := by
  have hBr := hr.lt
  have hb := bAl (Below.refl w.heap.size w) (.cells (chCells zeroCh) 46)
  have HR := Lib.hid (hr.below hb)
  have HB := Lib.hid (AtC.new w (chCells zeroCh) 46)
  have HBL := Lib.hid hb
  have CB := fun (W : World) (q : RAt W Br s) => YX.rByte_any Br s W q
  have CO := fun (W : World) (q : RAt W Br (rest rdB s)) => rGetObject_any Br (rest rdB s) W (lim_rest lenB hs) q
  obtain ⟨k, hk⟩ : ∃ k, told 0 rdB s = k := ⟨_, rfl⟩
  obtain ⟨s2, hs2⟩ : ∃ s2, rest rdB s = s2 := ⟨_, rfl⟩
  obtain ⟨⟨o, s3⟩, hq⟩ : ∃ q, getO s2 = q := ⟨_, rfl⟩
  have HQ : Hid (getC s = (⟨k, o⟩, s3)) := Lib.hid (by unfold getC; rw [hs2, hq, hk])
  rw [hk, hs2] at CB
  rw [hs2, hq] at CO
  replace CB := Lib.hid CB
  replace CO := Lib.hid CO
  clear hr hb hk hs2 hq hs
  go_enter Try.func19, Try.ntmps19
  go_upto_region 3 with (first
    | (go_at_call 51; ((refine (CB.out _ HR.out).mono ?_); rintro e w1 ⟨rfl, r1, k1⟩; have M1 := Lib.hid (AtC.new w1 (chCells ⟨k, zeroOb⟩) 46); have HR1 := Lib.hid (r1.below (bAl (Below.refl _ w1) (.cells (chCells ⟨k, zeroOb⟩) 46))); have K1 := Lib.hid ((Kept.trans (.of_below HBL.out) k1).al (.cells (chCells ⟨k, zeroOb⟩) 46)); have MR1 := Lib.hid ((HB.out.kept k1 (show w.heap.size ≠ Br by omega)).al (.cells (chCells ⟨k, zeroOb⟩) 46)); have hB1 : w.heap.size < w1.heap.size := (by have := k1.size; simp at this; omega); clear r1 k1))
    | (go_at_call 17; ((refine (CO.out _ HR1.out).mono ?_); rintro e w2 ⟨rfl, r2, k2⟩; have m2 := M1.out.kept k2 (show w1.heap.size ≠ Br by omega); have m2c := m2.c; have m2f := m2.f; have m2l := m2.lt; have N2 : Hid (AtC (stC w2 w1.heap.size 1 (obCells o).toList) w1.heap.size (chCells ⟨k, o⟩)) := Lib.hid (at_mid (obCells o).toList [.int .u8 (k : Int)] (obCells zeroOb).toList [] w2 m2 rfl); have HR2 := Lib.hid (r2.other (B2 := w1.heap.size) (kept_stC (fun _ h => h rfl) (obCells o).toList 1 w2 (Kept.refl _ _)) (by omega)); have K2 := Lib.hid (kept_stC (B := w1.heap.size) (fun h => absurd h (by omega)) (obCells o).toList 1 w2 (K1.out.trans k2)); have MR2 := Lib.hid (at_store (obCells o).toList 1 w2 _ (show w.heap.size ≠ w1.heap.size by omega) (MR1.out.kept k2 (show w.heap.size ≠ Br by omega))); clear r2 k2)))
  have eW : ((((((((((((((w2.setCell ⟨w1.heap.size, 1, none⟩ (.string o.handle)).setCell ⟨w1.heap.size, 2, none⟩ (.int .u8 o.kind)).setCell ⟨w1.heap.size, 3, none⟩ (.string o.parent)).setCell ⟨w1.heap.size, 4, none⟩ (.int .u8 o.typ)).setCell ⟨w1.heap.size, 5, none⟩ (.string o.ref)).setCell ⟨w1.heap.size, 6, none⟩ (.int .i64 o.lo)).setCell ⟨w1.heap.size, 7, none⟩ (.int .i64 o.hi)).setCell ⟨w1.heap.size, 8, none⟩ (.int .u8 o.digits)).setCell ⟨w1.heap.size, 9, none⟩ (.bool o.on)).setCell ⟨w1.heap.size, 10, none⟩ (.bool o.has)).setCell ⟨w1.heap.size, 11, none⟩ (.int .i64 o.value)).setCell ⟨w1.heap.size, 12, none⟩ (.int .i64 o.low)).setCell ⟨w1.heap.size, 13, none⟩ (.int .i64 o.high)).setCell ⟨w1.heap.size, 14, none⟩ (.int .u8 o.assoc)) = stC w2 w1.heap.size 1 (obCells o).toList := rfl
  rw [eW]
  clear eW m2 m2c m2f m2l
  generalize stC w2 w1.heap.size 1 (obCells o).toList = W5 at *
  have n5 := N2.out
  have m6 := MR2.out
  have hc : W5.rangeAt w1.heap.size 0 (chCells ⟨k, o⟩).toList := fun j v hv => by
    rw [Nat.zero_add, n5.c j, ← hv]; exact Array.getElem?_toList.symm
  have ht : W5.there w.heap.size 0 (chCells ⟨k, o⟩).size := fun j hj => by
    rw [Nat.zero_add]
    refine ⟨?_, m6.f j⟩
    rw [m6.c j]
    have hj : j < 15 := hj
    have : j < (chCells zeroCh).size := hj
    rw [Array.getElem?_eq_getElem this]; rfl
  have h1 : (chCells ⟨k, o⟩).all (·.oneCell') = true := all_oneCell_toArray (fun v hv => by simp at hv; rcases hv with rfl | rfl | rfl | rfl | rfl | rfl | rfl | rfl | rfl | rfl | rfl | rfl | rfl | rfl | rfl <;> rfl)
  refine wp_region_list ?_
  refine wpList_load_mid rfl _ _ rfl w1.heap.size 0 rfl (chCells ⟨k, o⟩).toList _ hc Try.underlying46 rfl (by kernel_rfl) ?_
  refine wpList_store_mid rfl _ _ _ rfl w.heap.size 0 (chCells ⟨k, o⟩) rfl rfl ht (by kernel_rfl) h1 ?_
  have eS : W5.setCells w.heap.size 0 (chCells ⟨k, o⟩).toList = stC W5 w.heap.size 0 (chCells ⟨k, o⟩).toList := setCells_st _ _ _ _
  rw [eS]
  have mF := at_all (chCells zeroCh).toList (chCells ⟨k, o⟩).toList m6 rfl
  have HF : Hid (RAt (stC W5 w.heap.size 0 (chCells ⟨k, o⟩).toList) Br s3) := Lib.hid (RAt.other (B2 := w.heap.size) HR2.out (kept_stC (fun _ h => h rfl) _ 0 W5 (Kept.refl _ _)) hBr)
  have KF : Hid (Kept w (stC W5 w.heap.size 0 (chCells ⟨k, o⟩).toList) (· ≠ Br)) := Lib.hid (kept_stC (fun h => absurd h (by omega)) _ 0 W5 K2.out)
  clear eS hc ht h1 n5 m6
  generalize stC W5 w.heap.size 0 (chCells ⟨k, o⟩).toList = W6 at *
  go_wp2
  refine ret_row (C := chCells ⟨k, o⟩) (B := w.heap.size) rfl rfl rfl mF (by kernel_rfl) (by kernel_rfl) ⟨by rw [HQ.out], ?_, ?_⟩
  · rw [HQ.out]; exact HF.out
  · exact KF.out
set_option maxHeartbeats 8000000 in
theorem rGetEntry_any (Br : Nat) (s : Option Bs) (w : World) (hs : Lim s) (hr : RAt w Br s) :
    Calls Try.prog 21 #[ptr Br] w fun e w' => Rdr w Br (en (getE s).1) (getE s).2 e w' := by
  have hBr := hr.lt
  have hb := bAl (Below.refl w.heap.size w) (.cells (enC zeroEn) 52)
  have HR := Lib.hid (hr.below hb)
  have HB := Lib.hid (AtC.new w (enC zeroEn) 52)
  have HBL := Lib.hid hb
  have l1 : Lim (rest rdS s) := lim_rest lenS hs
  have l2 : Lim (rest rdT (rest rdS s)) := lim_rest lenT l1
  have l3 : Lim (getO (rest rdT (rest rdS s))).2 := lim_getO l2
  have CT := fun (W : World) (q : RAt W Br s) => YX.rText_any Br s hs W q
  have CB := fun (W : World) (q : RAt W Br (rest rdS s)) => YX.rTruth_any Br (rest rdS s) W q
  have CO := fun (W : World) (q : RAt W Br (rest rdT (rest rdS s))) => rGetObject_any Br (rest rdT (rest rdS s)) W l2 q
  have CI := fun (W : World) (q : RAt W Br (getO (rest rdT (rest rdS s))).2) => YX.rInt_any Br _ l3 W q
  have CJ := fun (W : World) (q : RAt W Br (rest rdI (getO (rest rdT (rest rdS s))).2)) => YX.rInt_any Br _ (lim_rest lenI l3) W q
  clear l1 l2 l3
  obtain ⟨t, ht⟩ : ∃ t, told [] rdS s = t := ⟨_, rfl⟩
  obtain ⟨s1, hs1⟩ : ∃ s1, rest rdS s = s1 := ⟨_, rfl⟩
  obtain ⟨b, hb1⟩ : ∃ b, (told 0 rdT s1 == 1) = b := ⟨_, rfl⟩
  obtain ⟨s2, hs2⟩ : ∃ s2, rest rdT s1 = s2 := ⟨_, rfl⟩
  obtain ⟨⟨o, s3⟩, hq⟩ : ∃ q, getO s2 = q := ⟨_, rfl⟩
  obtain ⟨d, hd⟩ : ∃ d, told (0 : Int) rdI s3 = d := ⟨_, rfl⟩
  obtain ⟨s4, hs4⟩ : ∃ s4, rest rdI s3 = s4 := ⟨_, rfl⟩
  obtain ⟨st, hst⟩ : ∃ st, told (0 : Int) rdI s4 = st := ⟨_, rfl⟩
  obtain ⟨s5, hs5⟩ : ∃ s5, rest rdI s4 = s5 := ⟨_, rfl⟩
  have HQ : Hid (getE s = (⟨bt t, b, o, d, st⟩, s5)) := Lib.hid (by unfold getE e4 e3 e2 e1; rw [hs1, hs2, hq]; simp only; rw [hs4, hs5, ht, hb1, hd, hst])
  rw [ht, hs1] at CT
  rw [hs1] at CB
  simp only [hb1, hs2] at CB
  rw [hs1, hs2, hq] at CO CI CJ
  simp only [hs4] at CI CJ
  simp only [hd, hst, hs4, hs5] at CI CJ
  replace CT := Lib.hid CT
  replace CB := Lib.hid CB
  replace CO := Lib.hid CO
  replace CI := Lib.hid CI
  replace CJ := Lib.hid CJ
  clear hr hb ht hs1 hb1 hs2 hq hd hs4 hst hs5 hs
  go_enter Try.func21, Try.ntmps21
  go_upto_region 6 with (first
    | (go_at_call 52; ((refine (CT.out _ HR.out).mono ?_); rintro e w1 ⟨rfl, r1, k1⟩; have M1 := Lib.hid (AtC.new w1 (enC ⟨bt t, false, zeroOb, 0, 0⟩) 52); have HR1 := Lib.hid (r1.below (bAl (Below.refl _ w1) (.cells (enC ⟨bt t, false, zeroOb, 0, 0⟩) 52))); have K1 := Lib.hid ((Kept.trans (.of_below HBL.out) k1).al (.cells (enC ⟨bt t, false, zeroOb, 0, 0⟩) 52)); have MR1 := Lib.hid ((HB.out.kept k1 (show w.heap.size ≠ Br by omega)).al (.cells (enC ⟨bt t, false, zeroOb, 0, 0⟩) 52)); have hB1 : w.heap.size < w1.heap.size := (by have := k1.size; simp at this; omega); clear r1 k1))
    | (go_at_call 57; ((refine (CB.out _ HR1.out).mono ?_); rintro e w3 ⟨rfl, r, k⟩; have m := M1.out.kept k (show w1.heap.size ≠ Br by omega); have m3c := m.c; have m3f := m.f; have m3l := m.lt; have N3 : Hid (AtC _ w1.heap.size (enC ⟨bt t, b, zeroOb, 0, 0⟩)) := Lib.hid (at_mid [.bool b] [vS t] [.bool false] ((obCells zeroOb).toList ++ [.int .i64 0, .int .i64 0]) w3 m rfl); have HR3 := Lib.hid (r.other (B2 := w1.heap.size) ((Kept.refl _ _).set (B := w1.heap.size) (i := 1) (fun _ q => q rfl) (.bool b)) (by omega)); have K3 := Lib.hid ((K1.out.trans k).set (B := w1.heap.size) (i := 1) (fun q => absurd q (by omega)) (.bool b)); have MR3 := Lib.hid ((MR1.out.kept k (show w.heap.size ≠ Br by omega)).store (p := ⟨w1.heap.size, 1, none⟩) (by show w1.heap.size ≠ w.heap.size; omega) (.bool b)); clear r k m))
    | (go_at_call 17; ((refine (CO.out _ HR3.out).mono ?_); rintro e w4 ⟨rfl, r, k⟩; have m := N3.out.kept k (show w1.heap.size ≠ Br by omega); have m4c := m.c; have m4f := m.f; have m4l := m.lt; have N4 : Hid (AtC (stC w4 w1.heap.size 2 (obCells o).toList) w1.heap.size (enC ⟨bt t, b, o, 0, 0⟩)) := Lib.hid (at_mid (obCells o).toList [vS t, .bool b] (obCells zeroOb).toList [.int .i64 0, .int .i64 0] w4 m rfl); have HR4 := Lib.hid (r.other (B2 := w1.heap.size) (kept_stC (fun _ h => h rfl) (obCells o).toList 2 w4 (Kept.refl _ _)) (by omega)); have K4 := Lib.hid (kept_stC (B := w1.heap.size) (fun h => absurd h (by omega)) (obCells o).toList 2 w4 (K3.out.trans k)); have MR4 := Lib.hid (at_store (obCells o).toList 2 w4 _ (show w.heap.size ≠ w1.heap.size by omega) (MR3.out.kept k (show w.heap.size ≠ Br by omega))); clear r k m))
    | (go_at_call 54; first
      | ((refine (CJ.out _ HR5.out).mono ?_); rintro e w6 ⟨rfl, r, k⟩; have m := N5.out.kept k (show w1.heap.size ≠ Br by omega); have m6c := m.c; have m6f := m.f; have m6l := m.lt; have N6 : Hid (AtC _ w1.heap.size (enC ⟨bt t, b, o, d, st⟩)) := Lib.hid (at_mid [.int .i64 st] (vS t :: .bool b :: (obCells o).toList ++ [.int .i64 d]) [.int .i64 0] [] w6 m rfl); have HR6 := Lib.hid (r.other (B2 := w1.heap.size) ((Kept.refl _ _).set (B := w1.heap.size) (i := 17) (fun _ q => q rfl) (.int .i64 st)) (by omega)); have K6 := Lib.hid ((K5.out.trans k).set (B := w1.heap.size) (i := 17) (fun q => absurd q (by omega)) (.int .i64 st)); have MR6 := Lib.hid ((MR5.out.kept k (show w.heap.size ≠ Br by omega)).store (p := ⟨w1.heap.size, 17, none⟩) (by show w1.heap.size ≠ w.heap.size; omega) (.int .i64 st)); clear r k m)
      | ((refine (CI.out _ HR4.out).mono ?_); rintro e w5 ⟨rfl, r, k⟩; have m := N4.out.kept k (show w1.heap.size ≠ Br by omega); have m5c := m.c; have m5f := m.f; have m5l := m.lt; have N5 : Hid (AtC _ w1.heap.size (enC ⟨bt t, b, o, d, 0⟩)) := Lib.hid (at_mid [.int .i64 d] (vS t :: .bool b :: (obCells o).toList) [.int .i64 0] [.int .i64 0] w5 m rfl); have HR5 := Lib.hid (r.other (B2 := w1.heap.size) ((Kept.refl _ _).set (B := w1.heap.size) (i := 16) (fun _ q => q rfl) (.int .i64 d)) (by omega)); have K5 := Lib.hid ((K4.out.trans k).set (B := w1.heap.size) (i := 16) (fun q => absurd q (by omega)) (.int .i64 d)); have MR5 := Lib.hid ((MR4.out.kept k (show w.heap.size ≠ Br by omega)).store (p := ⟨w1.heap.size, 16, none⟩) (by show w1.heap.size ≠ w.heap.size; omega) (.int .i64 d)); clear r k m)))
  clear m3c m3f m3l m4c m4f m4l m5c m5f m5l m6c m6f m6l HR HB HBL CT CB CO CI CJ
  have n5 : AtC (w6.setCell ⟨w1.heap.size, 17, none⟩ (.int .i64 st)) w1.heap.size (enC ⟨bt t, b, o, d, st⟩) := N6.out
  clear N6
  generalize w6.setCell ⟨w1.heap.size, 17, none⟩ (.int .i64 st) = W5 at *
  have m6 := MR6.out
  have hc : W5.rangeAt w1.heap.size 0 (enC ⟨bt t, b, o, d, st⟩).toList := fun j v hv => by
    rw [Nat.zero_add, n5.c j, ← hv]; exact Array.getElem?_toList.symm
  have ht : W5.there w.heap.size 0 (enC ⟨bt t, b, o, d, st⟩).size := fun j hj => by
    rw [Nat.zero_add]
    refine ⟨?_, m6.f j⟩
    rw [m6.c j]
    have hj : j < 18 := hj
    have : j < (enC zeroEn).size := hj
    rw [Array.getElem?_eq_getElem this]; rfl
  have h1 : (enC ⟨bt t, b, o, d, st⟩).all (·.oneCell') = true := all_oneCell_toArray (fun v hv => by simp at hv; rcases hv with rfl | rfl | rfl | rfl | rfl | rfl | rfl | rfl | rfl | rfl | rfl | rfl | rfl | rfl | rfl | rfl | rfl | rfl <;> rfl)
  refine wp_region_list ?_
  refine wpList_load_mid rfl _ _ rfl w1.heap.size 0 rfl (enC ⟨bt t, b, o, d, st⟩).toList _ hc Try.underlying52 rfl (by kernel_rfl) ?_
  refine wpList_store_mid rfl _ _ _ rfl w.heap.size 0 (enC ⟨bt t, b, o, d, st⟩) rfl rfl ht (by kernel_rfl) h1 ?_
  have eS : W5.setCells w.heap.size 0 (enC ⟨bt t, b, o, d, st⟩).toList = stC W5 w.heap.size 0 (enC ⟨bt t, b, o, d, st⟩).toList := setCells_st _ _ _ _
  rw [eS]
  have mF := at_all (enC zeroEn).toList (enC ⟨bt t, b, o, d, st⟩).toList m6 rfl
  have HF : Hid (RAt (stC W5 w.heap.size 0 (enC ⟨bt t, b, o, d, st⟩).toList) Br s5) := Lib.hid (RAt.other (B2 := w.heap.size) HR6.out (kept_stC (fun _ h => h rfl) _ 0 W5 (Kept.refl _ _)) hBr)
  have KF : Hid (Kept w (stC W5 w.heap.size 0 (enC ⟨bt t, b, o, d, st⟩).toList) (· ≠ Br)) := Lib.hid (kept_stC (fun h => absurd h (by omega)) _ 0 W5 K6.out)
  clear eS hc ht h1 n5 m6
  generalize stC W5 w.heap.size 0 (enC ⟨bt t, b, o, d, st⟩).toList = W6 at *
  go_wp2
  refine ret_row (C := enC ⟨bt t, b, o, d, st⟩) (B := w.heap.size) rfl rfl rfl mF (by kernel_rfl) (by kernel_rfl) ⟨by rw [HQ.out], ?_, ?_⟩
  · rw [HQ.out]; exact HF.out
  · exact KF.out
end Go.Proofs.Ytejjlmdaalfenaa.PX
