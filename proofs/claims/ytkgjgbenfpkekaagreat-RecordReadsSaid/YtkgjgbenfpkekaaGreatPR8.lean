/-
  What the document's readings of lists want: plain facts; a reader beside a row of one's own.
-/
import Derived.Test.YtkgjgbenfpkekaaGreatPR3
import Derived.Test.YtkgjgbenfpkekaaGreatPR4
import Derived.Test.YtkgjgbenfpkekaaGreatPR1
import Derived.Test.YtkgjgbenfpkekaaGreatPR7
import Derived.Test.YtkgjgbenfpkekaaGreatPR5
namespace Go.Proofs.YtkgjgbenfpkekaaGreat.PX
open Go.RowKit HL
open IX (ptr El cellsK cellsK_at cellsK_len OwnK RdK Kept step_spreadK wpList_spreadK)
open YX (numB rdU rdB rdT rdS rdI addW intN natI rest told u8K Own own1 u8n RAt vS vU vI Lim doneB)
open DX (Ch ch chCells chK chs_at)
open WX (obK obs_at)
set_option maxRecDepth 100000
set_option linter.unusedVariables false
set_option linter.unusedSimpArgs false

theorem lim_getN {α : Type} (C : Cod α) {s : Option Bs} (h : Lim s) (k : Nat) : Lim (getN C k s).2 := by
  cases s with
  | none =>
    have e : ∀ k, (getN C k none).2 = none := fun k => by
      induction k with
      | zero => rfl
      | succ k ih => simp only [getN]; rw [ih]; exact C.rd_none
    rw [e]; exact h
  | some b => exact lim_of h (fun e => by cases e) (fun m l e e2 => by cases e; exact getN_small C b k l e2)
/-- Below a number nothing was changed. -/
theorem kept_lt {w w' : World} {B : Nat} (h : Below B w w') : Kept w w' (· < B) := ⟨h.os, h.tape, h.output, h.size, fun j _ hj => h.block j hj⟩
theorem rat_beside {w w' : World} {B base : Nat} {s : Option Bs} (h : RAt w B s) (k : Below base w w') (hb : B < base) : RAt w' B s := h.kept (kept_lt k) (fun j hj => show j < base by omega)
end Go.Proofs.YtkgjgbenfpkekaaGreat.PX
/-
  WALK: the document's ReadObjects.
-/
namespace Go.Proofs.YtkgjgbenfpkekaaGreat.PX
open Go.RowKit HL
open IX (ptr El cellsK cellsK_at cellsK_len OwnK RdK Kept step_spreadK wpList_spreadK)
open YX (numB rdU rdB rdT rdS rdI addW intN natI rest told u8K Own own1 u8n RAt vS vU vI Lim doneB)
open DX (Ch ch chCells chK chs_at)
open WX (obK obs_at)
set_option maxRecDepth 100000
set_option linter.unusedVariables false
set_option linter.unusedSimpArgs false

set_option maxHeartbeats 8000000 in
theorem refReadObjects_any (A : Option Addr) (c : Nat) (b : Bs) (w : World) (h : RdK u8K w w.heap.size A b) (hb : b.length ≤ 900000) (hcap : b.length ≤ c) :
    Calls Tryz.prog 9 #[.slice A b.length c] w fun e w' => ∃ v n, e = .returned (.tuple #[v, .int .i64 n]) ∧ LsO w' v n (readL codO b) ∧ Below w.heap.size w w' := by
  have HIN := Lib.hid h
  have B1 := Lib.hid (bAl (Below.refl w.heap.size w) (.cells #[.slice A b.length c, .bool false] 90))
  have R1 : Hid (RAt (w.alloc (.cells #[.slice A b.length c, .bool false] 90)) w.heap.size (some b)) := Lib.hid ⟨A, c, AtC.new _ _ _, h.below (bAl (Below.refl _ _) _), hcap⟩
  have CU := Lib.hid (fun (W : World) (q : RAt W w.heap.size (some b)) => YX.rUint_any w.heap.size (some b) (show b.length ≤ 1000000 by omega) W q)
  have hmb : told (0 : Nat) rdU (some b) = many b := rfl
  have hrb : rest rdU (some b) = behind b := rfl
  rw [hmb, hrb] at CU
  have hls : Lim (behind b) := lim_rest lenU (show b.length ≤ 1000000 by omega)
  have hmn : many b < 18446744073709551616 := YX.told_lt _
  obtain ⟨r, hr⟩ : ∃ r, readL codO b = r := ⟨_, rfl⟩
  have HREF : Hid (∀ k, k ≤ many b → k ≤ 64 → (k = many b ∨ k = 64 ∨ (getN codO k (behind b)).2 = none) → ((getN codO k (behind b)).2 = some [] ∧ writeL codO (getN codO k (behind b)).1 = some b → r = some (getN codO k (behind b)).1) ∧ (¬ ((getN codO k (behind b)).2 = some [] ∧ writeL codO (getN codO k (behind b)).1 = some b) → r = none)) := Lib.hid (fun k a1 a2 a3 => by rw [← hr]; exact readL_ref codO a1 a2 a3)
  have HLIM := Lib.hid (fun k => lim_getN codO hls k)
  have HLN := Lib.hid (fun k => getN_len codO (behind b) k)
  have HFI := Lib.hid (fun k => getN_fine codO (behind b) k)
  rw [hr]
  clear h hmb hrb hls hr
  generalize behind b = s0 at *
  generalize many b = m at *
  go_enter Tryz.func9, Tryz.ntmps9
  go_wp2_with (go_at_call 40; ((refine (CU.out _ R1.out).mono ?_); rintro e w2 ⟨rfl, r2, k2⟩; have R2 := Lib.hid r2; have K2 := Lib.hid ((Kept.trans (P := (· ≠ w.heap.size)) (.of_below B1.out) k2).below (Nat.le_refl _) (fun j hj => show j ≠ w.heap.size by omega)); have HB2 := Lib.hid (show w.heap.size < w2.heap.size from r2.lt); clear r2 k2))
  go_loopw [6, 7] (fun v i wr => ∃ k : Nat, i = .int .u64 k ∧ k ≤ m ∧ k ≤ 64 ∧ Hid (OwnK obK wr w2.heap.size v (getN codO k s0).1) ∧ Hid (RAt wr w.heap.size (getN codO k s0).2) ∧ Below w.heap.size w wr ∧ w2.heap.size ≤ wr.heap.size) (fun _ i _ => 64 - (intOf i).toNat)
  case atStart => exact ⟨0, rfl, by omega, by omega, Lib.hid (OwnK.nil_ _ _ _), R2, K2.out, Nat.le_refl _⟩
  case round =>
    obtain ⟨k, rfl, hk, h64, hO, hR, hb3, hsz⟩ := hrel
    have K3 := Lib.hid hb3
    have hlim := HLIM.out k
    have hlen := HLN.out k
    have hfin := HFI.out k
    have HRK := Lib.hid (HREF.out k hk h64)
    have HN1 : Hid ((getN codO (k + 1) s0).1 = (getN codO k s0).1 ++ [(codO.rd (getN codO k s0).2).1]) := Lib.hid rfl
    have HN2 : Hid ((getN codO (k + 1) s0).2 = (codO.rd (getN codO k s0).2).2) := Lib.hid rfl
    clear B1 R1 R2 K2
    generalize (getN codO k s0).1 = L at *
    generalize (getN codO k s0).2 = st at *
    by_cases hgo : k < m ∧ k < 64 ∧ st ≠ none
    · obtain ⟨g1, g2, g3⟩ := hgo
      have i1 : (k : Int) < (m : Int) := by omega
      have i2 : (k : Int) < 64 := by omega
      have hw : IntKind.u64.wrap ((k : Int) + 1) = (k : Int) + 1 := by simp [IntKind.wrap, IntKind.bits, IntKind.signed]; omega
      obtain ⟨l0, rfl⟩ : ∃ l0, st = some l0 := by cases st with | none => exact absurd rfl g3 | some l0 => exact ⟨l0, rfl⟩
      obtain ⟨A5, c5, at5, rd5, _⟩ : ∃ A c, AtC wr w.heap.size #[.slice A l0.length c, .bool false] ∧ RdK u8K wr w.heap.size A l0 ∧ l0.length ≤ c := hR.out
      have q0 := at5.c 0
      have q1 := at5.c 1
      have CG := Lib.hid (fun W (q : RAt W w.heap.size (some l0)) => rGetObject_any w.heap.size (some l0) W hlim q)
      have eRD : codO.rd (some l0) = getO (some l0) := rfl
      rw [eRD] at HN1 HN2
      clear at5 rd5 eRD g3 hlim HRK hfin
      generalize (getO (some l0)).1 = x at *
      generalize (getO (some l0)).2 = s2 at *
      go_wp2_with (first
        | (go_at_call 41; ((refine (CG.out _ hR.out).mono ?_); rintro e w4 ⟨rfl, r4, k4⟩; have R4 := Lib.hid r4; have K4 := Lib.hid ((Kept.trans (P := (· ≠ w.heap.size)) (.of_below K3.out) k4).below (Nat.le_refl _) (fun j hj => show j ≠ w.heap.size by omega)); have HS4 := Lib.hid (Nat.le_trans hsz k4.size); have O4 := Lib.hid (hO.out.kept k4 (fun j e => by have h1 := (hO.out.lt j e).1; have h2 := HB2.out; show j ≠ w.heap.size; omega)); clear r4 k4 q0 q1))
        | (at_builtin; refine wpList_spreadK obK rfl (.tmp 31) (.tmp 34) rfl w2.heap.size _ L rfl (O4.out.below (bAl (Below.refl _ _) _)) (w4.heap.size + 1) (some ⟨w4.heap.size, 0, none⟩) 1 1 [x] rfl rfl (RdK.lit (K := obK) w4 x (obCells x) rfl 45) ?c1 ?c2 ?_))
      case c1 => simp only [List.length_singleton]; omega
      case c2 => have := HS4.out; simp; omega
      intro v5 w5 o5 g5 f5
      have HB2' := HB2.out
      have b45 : Below w2.heap.size w4 w5 := Below.grown ((Below.refl w2.heap.size w4).alloc HS4.out _) g5 (by have := HS4.out; simp; omega) (fun a ha => (O4.out.lt a ha).1)
      have R5 := Lib.hid (rat_beside R4.out b45 HB2.out)
      have K5 := Lib.hid ((bAl K4.out _).grown g5 (by have := K4.out.size; simp; omega) (fun a ha => Nat.le_trans (Nat.le_of_lt HB2.out) (O4.out.lt a ha).1))
      have HS5 := Lib.hid (Nat.le_trans HS4.out b45.size)
      have O5 := Lib.hid o5
      clear o5 g5 b45
      go_wp2
      go_roundw
      case rel => exact ⟨k + 1, by go_num, by omega, by omega, Lib.hid (by rw [HN1.out]; exact O5.out), Lib.hid (by rw [HN2.out]; exact R5.out), K5.out, HS5.out⟩
      case measure => (simp [intOf]; try omega)
    · have hstop : k = m ∨ k = 64 ∨ st = none := by
        by_cases a : k = m
        · exact .inl a
        · by_cases b : k = 64
          · exact .inr (.inl b)
          · exact .inr (.inr (by cases st with | none => rfl | some l => exact absurd ⟨by omega, by omega, fun e => by cases e⟩ hgo))
      have HRR := Lib.hid (HRK.out hstop)
      have hstop2 : ((k : Int) < (m : Int)) = False ∨ (((k : Int) < (m : Int)) = True ∧ ((k : Int) < 64) = False) ∨ (((k : Int) < (m : Int)) = True ∧ ((k : Int) < 64) = True ∧ st = none) := by
        by_cases a : k < m
        · by_cases b : k < 64
          · exact .inr (.inr ⟨by simp; omega, by simp; omega, hstop.elim (fun q => absurd q (by omega)) (fun q => q.elim (fun q => absurd q (by omega)) id)⟩)
          · exact .inr (.inl ⟨by simp; omega, by simp; omega⟩)
        · exact .inl (by simp; omega)
      obtain ⟨Ao, co, rfl, ro, hco, _⟩ := hO.out.form
      have RO := Lib.hid ro
      have CW := Lib.hid ((refObjects_any Ao co L wr ro hfin (by omega)).mono fun _ _ => bts_telB)
      have CD := Lib.hid (fun W (q : RAt W w.heap.size st) => YX.rDone_any w.heap.size st W q)
      clear HREF HLIM HLN HFI HRK HN1 HN2 ro hO hgo hlim hfin hstop hlen
      have hc1 : ∃ fb, wr.cell? ⟨w.heap.size, 1, none⟩ = some (.bool fb) ∧ (st = none → fb = true) := by
        cases hst : st with
        | none => rw [hst] at hR; exact ⟨true, (AtC.c (C := #[.slice none 0 0, .bool true]) hR.out 1), fun _ => rfl⟩
        | some l0 => rw [hst] at hR; obtain ⟨A5, c5, at5, _⟩ := hR.out; exact ⟨false, at5.c 1, fun e => by cases e⟩
      obtain ⟨fb, q1, hfb⟩ := hc1
      have HY : Hid (st = some [] ∧ writeL codO L = some b ∨ ¬ (st = some [] ∧ writeL codO L = some b)) := Lib.hid (Classical.em _)
      have hN0 : st ≠ some [] → doneB st = false := fun h => by
        cases st with
        | none => rfl
        | some l => cases l with
          | nil => exact absurd rfl h
          | cons x l => rfl
      by_cases hst : st = some []
      · have hd : doneB st = true := by rw [hst]; rfl
        rw [hd] at CD
        cases hW : writeL codO L with
        | none =>
          rw [hW, show nOf (none : Option Bs) = 3 from rfl, show (none : Option Bs).getD [] = [] from rfl] at CW
          have HR0 : Hid (r = none) := Lib.hid (HRR.out.2 (fun q => by rw [hW] at q; cases q.2))
          clear hN0 hst hd hW HRR HY
          rcases hstop2 with i1 | ⟨i1, i2⟩ | ⟨i1, i2, i3⟩
          all_goals
            try have i4 := hfb i3
            clear hfb
            try subst i4
            go_wp2_with (first
              | (go_at_call 42; ((refine CW.out.mono ?_); rintro e w6 ⟨v6, rfl, t6, k6⟩; have K6 := Lib.hid (bThen K3.out k6); have R6 := Lib.hid (hR.out.below k6); clear k6 t6))
              | (go_at_call 43; ((refine (CD.out _ R6.out).mono ?_); rintro e w7 ⟨rfl, rfl⟩)))
            go_ret2
            exact ⟨_, 120, rfl, by rw [HR0.out]; exact .no, K6.out⟩
        | some b2 =>
          rw [hW, show nOf (some b2) = 0 from rfl, show (some b2).getD [] = b2 from rfl] at CW
          by_cases hbb : b2 = b
          · have HR0 : Hid (r = some L) := Lib.hid (HRR.out.1 ⟨hst, by rw [hW, hbb]⟩)
            clear hN0 hst hd hW HRR HY
            subst hbb
            rcases hstop2 with i1 | ⟨i1, i2⟩ | ⟨i1, i2, i3⟩
            all_goals
              try have i4 := hfb i3
              clear hfb
              try subst i4
              go_wp2_with (first
                | (go_at_call 42; ((refine CW.out.mono ?_); rintro e w6 ⟨v6, rfl, t6, k6⟩; have K6 := Lib.hid (bThen K3.out k6); have R6 := Lib.hid (hR.out.below k6); have RO6 := Lib.hid ((RO.out.below k6).more k6.size); have cvo : (convert 22 9 v6).run Tryz.prog w6 = .ok (str b2) w6 := t6 _ (Below.refl _ _); have cvb := YX.conv_str (c := c) ((HIN.out.below K6.out).more K6.out.size) rfl; clear k6 t6))
                | (go_at_call 43; ((refine (CD.out _ R6.out).mono ?_); rintro e w7 ⟨rfl, rfl⟩)))
              go_ret2
              exact ⟨_, 0, rfl, by rw [HR0.out]; exact .yes Ao co L RO6.out, K6.out⟩
          · have HR0 : Hid (r = none) := Lib.hid (HRR.out.2 (fun q => by rw [hW] at q; exact hbb (by injection q.2)))
            have hne : (b2 == b) = false := by simpa using hbb
            clear hN0 hst hd hW HRR HY
            rcases hstop2 with i1 | ⟨i1, i2⟩ | ⟨i1, i2, i3⟩
            all_goals
              try have i4 := hfb i3
              clear hfb
              try subst i4
              go_wp2_with (first
                | (go_at_call 42; ((refine CW.out.mono ?_); rintro e w6 ⟨v6, rfl, t6, k6⟩; have K6 := Lib.hid (bThen K3.out k6); have R6 := Lib.hid (hR.out.below k6); have cvo : (convert 22 9 v6).run Tryz.prog w6 = .ok (str b2) w6 := t6 _ (Below.refl _ _); have cvb := YX.conv_str (c := c) ((HIN.out.below K6.out).more K6.out.size) rfl; clear k6 t6))
                | (go_at_call 43; ((refine (CD.out _ R6.out).mono ?_); rintro e w7 ⟨rfl, rfl⟩)))
              go_ret2
              exact ⟨_, 120, rfl, by rw [HR0.out]; exact .no, K6.out⟩
      · have hd := hN0 hst
        rw [hd] at CD
        have HR0 : Hid (r = none) := Lib.hid (HRR.out.2 (fun q => hst q.1))
        clear hN0 hst hd HRR HY
        generalize nOf (writeL codO L) = nW at *
        generalize (writeL codO L).getD [] = sW at *
        rcases hstop2 with i1 | ⟨i1, i2⟩ | ⟨i1, i2, i3⟩
        all_goals
          try have i4 := hfb i3
          clear hfb
          try subst i4
          go_wp2_with (first
            | (go_at_call 42; ((refine CW.out.mono ?_); rintro e w6 ⟨v6, rfl, t6, k6⟩; have K6 := Lib.hid (bThen K3.out k6); have R6 := Lib.hid (hR.out.below k6); clear k6 t6))
            | (go_at_call 43; ((refine (CD.out _ R6.out).mono ?_); rintro e w7 ⟨rfl, rfl⟩)))
          go_ret2
          exact ⟨_, 120, rfl, by rw [HR0.out]; exact .no, K6.out⟩
end Go.Proofs.YtkgjgbenfpkekaaGreat.PX
/-
  WALK: the document's ReadSet.
-/
namespace Go.Proofs.YtkgjgbenfpkekaaGreat.PX
open Go.RowKit HL
open IX (ptr El cellsK cellsK_at cellsK_len OwnK RdK Kept step_spreadK wpList_spreadK)
open YX (numB rdU rdB rdT rdS rdI addW intN natI rest told u8K Own own1 u8n RAt vS vU vI Lim doneB)
open DX (Ch ch chCells chK chs_at)
open WX (obK obs_at)
set_option maxRecDepth 100000
set_option linter.unusedVariables false
set_option linter.unusedSimpArgs false

set_option maxHeartbeats 8000000 in
theorem refReadSet_any (A : Option Addr) (c : Nat) (b : Bs) (w : World) (h : RdK u8K w w.heap.size A b) (hb : b.length ≤ 900000) (hcap : b.length ≤ c) :
    Calls Tryz.prog 11 #[.slice A b.length c] w fun e w' => ∃ v n, e = .returned (.tuple #[v, .int .i64 n]) ∧ LsC w' v n (readL codC b) ∧ Below w.heap.size w w' := by
  have HIN := Lib.hid h
  have B1 := Lib.hid (bAl (Below.refl w.heap.size w) (.cells #[.slice A b.length c, .bool false] 90))
  have R1 : Hid (RAt (w.alloc (.cells #[.slice A b.length c, .bool false] 90)) w.heap.size (some b)) := Lib.hid ⟨A, c, AtC.new _ _ _, h.below (bAl (Below.refl _ _) _), hcap⟩
  have CU := Lib.hid (fun (W : World) (q : RAt W w.heap.size (some b)) => YX.rUint_any w.heap.size (some b) (show b.length ≤ 1000000 by omega) W q)
  have hmb : told (0 : Nat) rdU (some b) = many b := rfl
  have hrb : rest rdU (some b) = behind b := rfl
  rw [hmb, hrb] at CU
  have hls : Lim (behind b) := lim_rest lenU (show b.length ≤ 1000000 by omega)
  have hmn : many b < 18446744073709551616 := YX.told_lt _
  obtain ⟨r, hr⟩ : ∃ r, readL codC b = r := ⟨_, rfl⟩
  have HREF : Hid (∀ k, k ≤ many b → k ≤ 64 → (k = many b ∨ k = 64 ∨ (getN codC k (behind b)).2 = none) → ((getN codC k (behind b)).2 = some [] ∧ writeL codC (getN codC k (behind b)).1 = some b → r = some (getN codC k (behind b)).1) ∧ (¬ ((getN codC k (behind b)).2 = some [] ∧ writeL codC (getN codC k (behind b)).1 = some b) → r = none)) := Lib.hid (fun k a1 a2 a3 => by rw [← hr]; exact readL_ref codC a1 a2 a3)
  have HLIM := Lib.hid (fun k => lim_getN codC hls k)
  have HLN := Lib.hid (fun k => getN_len codC (behind b) k)
  have HFI := Lib.hid (fun k => getN_fine codC (behind b) k)
  rw [hr]
  clear h hmb hrb hls hr
  generalize behind b = s0 at *
  generalize many b = m at *
  go_enter Tryz.func11, Tryz.ntmps11
  go_wp2_with (go_at_call 40; ((refine (CU.out _ R1.out).mono ?_); rintro e w2 ⟨rfl, r2, k2⟩; have R2 := Lib.hid r2; have K2 := Lib.hid ((Kept.trans (P := (· ≠ w.heap.size)) (.of_below B1.out) k2).below (Nat.le_refl _) (fun j hj => show j ≠ w.heap.size by omega)); have HB2 := Lib.hid (show w.heap.size < w2.heap.size from r2.lt); clear r2 k2))
  go_loopw [6, 7] (fun v i wr => ∃ k : Nat, i = .int .u64 k ∧ k ≤ m ∧ k ≤ 64 ∧ Hid (OwnK chK wr w2.heap.size v (getN codC k s0).1) ∧ Hid (RAt wr w.heap.size (getN codC k s0).2) ∧ Below w.heap.size w wr ∧ w2.heap.size ≤ wr.heap.size) (fun _ i _ => 64 - (intOf i).toNat)
  case atStart => exact ⟨0, rfl, by omega, by omega, Lib.hid (OwnK.nil_ _ _ _), R2, K2.out, Nat.le_refl _⟩
  case round =>
    obtain ⟨k, rfl, hk, h64, hO, hR, hb3, hsz⟩ := hrel
    have K3 := Lib.hid hb3
    have hlim := HLIM.out k
    have hlen := HLN.out k
    have hfin := HFI.out k
    have HRK := Lib.hid (HREF.out k hk h64)
    have HN1 : Hid ((getN codC (k + 1) s0).1 = (getN codC k s0).1 ++ [(codC.rd (getN codC k s0).2).1]) := Lib.hid rfl
    have HN2 : Hid ((getN codC (k + 1) s0).2 = (codC.rd (getN codC k s0).2).2) := Lib.hid rfl
    clear B1 R1 R2 K2
    generalize (getN codC k s0).1 = L at *
    generalize (getN codC k s0).2 = st at *
    by_cases hgo : k < m ∧ k < 64 ∧ st ≠ none
    · obtain ⟨g1, g2, g3⟩ := hgo
      have i1 : (k : Int) < (m : Int) := by omega
      have i2 : (k : Int) < 64 := by omega
      have hw : IntKind.u64.wrap ((k : Int) + 1) = (k : Int) + 1 := by simp [IntKind.wrap, IntKind.bits, IntKind.signed]; omega
      obtain ⟨l0, rfl⟩ : ∃ l0, st = some l0 := by cases st with | none => exact absurd rfl g3 | some l0 => exact ⟨l0, rfl⟩
      obtain ⟨A5, c5, at5, rd5, _⟩ : ∃ A c, AtC wr w.heap.size #[.slice A l0.length c, .bool false] ∧ RdK u8K wr w.heap.size A l0 ∧ l0.length ≤ c := hR.out
      have q0 := at5.c 0
      have q1 := at5.c 1
      have CG := Lib.hid (fun W (q : RAt W w.heap.size (some l0)) => rGetChange_any w.heap.size (some l0) W hlim q)
      have eRD : codC.rd (some l0) = getC (some l0) := rfl
      rw [eRD] at HN1 HN2
      clear at5 rd5 eRD g3 hlim HRK hfin
      generalize (getC (some l0)).1 = x at *
      generalize (getC (some l0)).2 = s2 at *
      go_wp2_with (first
        | (go_at_call 47; ((refine (CG.out _ hR.out).mono ?_); rintro e w4 ⟨rfl, r4, k4⟩; have R4 := Lib.hid r4; have K4 := Lib.hid ((Kept.trans (P := (· ≠ w.heap.size)) (.of_below K3.out) k4).below (Nat.le_refl _) (fun j hj => show j ≠ w.heap.size by omega)); have HS4 := Lib.hid (Nat.le_trans hsz k4.size); have O4 := Lib.hid (hO.out.kept k4 (fun j e => by have h1 := (hO.out.lt j e).1; have h2 := HB2.out; show j ≠ w.heap.size; omega)); clear r4 k4 q0 q1))
        | (at_builtin; refine wpList_spreadK chK rfl (.tmp 31) (.tmp 34) rfl w2.heap.size _ L rfl (O4.out.below (bAl (Below.refl _ _) _)) (w4.heap.size + 1) (some ⟨w4.heap.size, 0, none⟩) 1 1 [x] rfl rfl (RdK.lit (K := chK) w4 x (chCells x) rfl 47) ?c1 ?c2 ?_))
      case c1 => simp only [List.length_singleton]; omega
      case c2 => have := HS4.out; simp; omega
      intro v5 w5 o5 g5 f5
      have HB2' := HB2.out
      have b45 : Below w2.heap.size w4 w5 := Below.grown ((Below.refl w2.heap.size w4).alloc HS4.out _) g5 (by have := HS4.out; simp; omega) (fun a ha => (O4.out.lt a ha).1)
      have R5 := Lib.hid (rat_beside R4.out b45 HB2.out)
      have K5 := Lib.hid ((bAl K4.out _).grown g5 (by have := K4.out.size; simp; omega) (fun a ha => Nat.le_trans (Nat.le_of_lt HB2.out) (O4.out.lt a ha).1))
      have HS5 := Lib.hid (Nat.le_trans HS4.out b45.size)
      have O5 := Lib.hid o5
      clear o5 g5 b45
      go_wp2
      go_roundw
      case rel => exact ⟨k + 1, by go_num, by omega, by omega, Lib.hid (by rw [HN1.out]; exact O5.out), Lib.hid (by rw [HN2.out]; exact R5.out), K5.out, HS5.out⟩
      case measure => (simp [intOf]; try omega)
    · have hstop : k = m ∨ k = 64 ∨ st = none := by
        by_cases a : k = m
        · exact .inl a
        · by_cases b : k = 64
          · exact .inr (.inl b)
          · exact .inr (.inr (by cases st with | none => rfl | some l => exact absurd ⟨by omega, by omega, fun e => by cases e⟩ hgo))
      have HRR := Lib.hid (HRK.out hstop)
      have hstop2 : ((k : Int) < (m : Int)) = False ∨ (((k : Int) < (m : Int)) = True ∧ ((k : Int) < 64) = False) ∨ (((k : Int) < (m : Int)) = True ∧ ((k : Int) < 64) = True ∧ st = none) := by
        by_cases a : k < m
        · by_cases b : k < 64
          · exact .inr (.inr ⟨by simp; omega, by simp; omega, hstop.elim (fun q => absurd q (by omega)) (fun q => q.elim (fun q => absurd q (by omega)) id)⟩)
          · exact .inr (.inl ⟨by simp; omega, by simp; omega⟩)
        · exact .inl (by simp; omega)
      obtain ⟨Ao, co, rfl, ro, hco, _⟩ := hO.out.form
      have RO := Lib.hid ro
      have CW := Lib.hid ((refSet_any Ao co L wr ro hfin (by omega)).mono fun _ _ => bts_telB)
      have CD := Lib.hid (fun W (q : RAt W w.heap.size st) => YX.rDone_any w.heap.size st W q)
      clear HREF HLIM HLN HFI HRK HN1 HN2 ro hO hgo hlim hfin hstop hlen
      have hc1 : ∃ fb, wr.cell? ⟨w.heap.size, 1, none⟩ = some (.bool fb) ∧ (st = none → fb = true) := by
        cases hst : st with
        | none => rw [hst] at hR; exact ⟨true, (AtC.c (C := #[.slice none 0 0, .bool true]) hR.out 1), fun _ => rfl⟩
        | some l0 => rw [hst] at hR; obtain ⟨A5, c5, at5, _⟩ := hR.out; exact ⟨false, at5.c 1, fun e => by cases e⟩
      obtain ⟨fb, q1, hfb⟩ := hc1
      have HY : Hid (st = some [] ∧ writeL codC L = some b ∨ ¬ (st = some [] ∧ writeL codC L = some b)) := Lib.hid (Classical.em _)
      have hN0 : st ≠ some [] → doneB st = false := fun h => by
        cases st with
        | none => rfl
        | some l => cases l with
          | nil => exact absurd rfl h
          | cons x l => rfl
      by_cases hst : st = some []
      · have hd : doneB st = true := by rw [hst]; rfl
        rw [hd] at CD
        cases hW : writeL codC L with
        | none =>
          rw [hW, show nOf (none : Option Bs) = 3 from rfl, show (none : Option Bs).getD [] = [] from rfl] at CW
          have HR0 : Hid (r = none) := Lib.hid (HRR.out.2 (fun q => by rw [hW] at q; cases q.2))
          clear hN0 hst hd hW HRR HY
          rcases hstop2 with i1 | ⟨i1, i2⟩ | ⟨i1, i2, i3⟩
          all_goals
            try have i4 := hfb i3
            clear hfb
            try subst i4
            go_wp2_with (first
              | (go_at_call 48; ((refine CW.out.mono ?_); rintro e w6 ⟨v6, rfl, t6, k6⟩; have K6 := Lib.hid (bThen K3.out k6); have R6 := Lib.hid (hR.out.below k6); clear k6 t6))
              | (go_at_call 43; ((refine (CD.out _ R6.out).mono ?_); rintro e w7 ⟨rfl, rfl⟩)))
            go_ret2
            exact ⟨_, 120, rfl, by rw [HR0.out]; exact .no, K6.out⟩
        | some b2 =>
          rw [hW, show nOf (some b2) = 0 from rfl, show (some b2).getD [] = b2 from rfl] at CW
          by_cases hbb : b2 = b
          · have HR0 : Hid (r = some L) := Lib.hid (HRR.out.1 ⟨hst, by rw [hW, hbb]⟩)
            clear hN0 hst hd hW HRR HY
            subst hbb
            rcases hstop2 with i1 | ⟨i1, i2⟩ | ⟨i1, i2, i3⟩
            all_goals
              try have i4 := hfb i3
              clear hfb
              try subst i4
              go_wp2_with (first
                | (go_at_call 48; ((refine CW.out.mono ?_); rintro e w6 ⟨v6, rfl, t6, k6⟩; have K6 := Lib.hid (bThen K3.out k6); have R6 := Lib.hid (hR.out.below k6); have RO6 := Lib.hid ((RO.out.below k6).more k6.size); have cvo : (convert 22 9 v6).run Tryz.prog w6 = .ok (str b2) w6 := t6 _ (Below.refl _ _); have cvb := YX.conv_str (c := c) ((HIN.out.below K6.out).more K6.out.size) rfl; clear k6 t6))
                | (go_at_call 43; ((refine (CD.out _ R6.out).mono ?_); rintro e w7 ⟨rfl, rfl⟩)))
              go_ret2
              exact ⟨_, 0, rfl, by rw [HR0.out]; exact .yes Ao co L RO6.out, K6.out⟩
          · have HR0 : Hid (r = none) := Lib.hid (HRR.out.2 (fun q => by rw [hW] at q; exact hbb (by injection q.2)))
            have hne : (b2 == b) = false := by simpa using hbb
            clear hN0 hst hd hW HRR HY
            rcases hstop2 with i1 | ⟨i1, i2⟩ | ⟨i1, i2, i3⟩
            all_goals
              try have i4 := hfb i3
              clear hfb
              try subst i4
              go_wp2_with (first
                | (go_at_call 48; ((refine CW.out.mono ?_); rintro e w6 ⟨v6, rfl, t6, k6⟩; have K6 := Lib.hid (bThen K3.out k6); have R6 := Lib.hid (hR.out.below k6); have cvo : (convert 22 9 v6).run Tryz.prog w6 = .ok (str b2) w6 := t6 _ (Below.refl _ _); have cvb := YX.conv_str (c := c) ((HIN.out.below K6.out).more K6.out.size) rfl; clear k6 t6))
                | (go_at_call 43; ((refine (CD.out _ R6.out).mono ?_); rintro e w7 ⟨rfl, rfl⟩)))
              go_ret2
              exact ⟨_, 120, rfl, by rw [HR0.out]; exact .no, K6.out⟩
      · have hd := hN0 hst
        rw [hd] at CD
        have HR0 : Hid (r = none) := Lib.hid (HRR.out.2 (fun q => hst q.1))
        clear hN0 hst hd HRR HY
        generalize nOf (writeL codC L) = nW at *
        generalize (writeL codC L).getD [] = sW at *
        rcases hstop2 with i1 | ⟨i1, i2⟩ | ⟨i1, i2, i3⟩
        all_goals
          try have i4 := hfb i3
          clear hfb
          try subst i4
          go_wp2_with (first
            | (go_at_call 48; ((refine CW.out.mono ?_); rintro e w6 ⟨v6, rfl, t6, k6⟩; have K6 := Lib.hid (bThen K3.out k6); have R6 := Lib.hid (hR.out.below k6); clear k6 t6))
            | (go_at_call 43; ((refine (CD.out _ R6.out).mono ?_); rintro e w7 ⟨rfl, rfl⟩)))
          go_ret2
          exact ⟨_, 120, rfl, by rw [HR0.out]; exact .no, K6.out⟩
end Go.Proofs.YtkgjgbenfpkekaaGreat.PX
/-
  WALK: the document's ReadEntries.
-/
namespace Go.Proofs.YtkgjgbenfpkekaaGreat.PX
open Go.RowKit HL
open IX (ptr El cellsK cellsK_at cellsK_len OwnK RdK Kept step_spreadK wpList_spreadK)
open YX (numB rdU rdB rdT rdS rdI addW intN natI rest told u8K Own own1 u8n RAt vS vU vI Lim doneB)
open DX (Ch ch chCells chK chs_at)
open WX (obK obs_at)
set_option maxRecDepth 100000
set_option linter.unusedVariables false
set_option linter.unusedSimpArgs false

set_option maxHeartbeats 8000000 in
theorem refReadEntries_any (A : Option Addr) (c : Nat) (b : Bs) (w : World) (h : RdK u8K w w.heap.size A b) (hb : b.length ≤ 900000) (hcap : b.length ≤ c) :
    Calls Tryz.prog 13 #[.slice A b.length c] w fun e w' => ∃ v n, e = .returned (.tuple #[v, .int .i64 n]) ∧ LsE w' v n (readL codE b) ∧ Below w.heap.size w w' := by
  have HIN := Lib.hid h
  have B1 := Lib.hid (bAl (Below.refl w.heap.size w) (.cells #[.slice A b.length c, .bool false] 90))
  have R1 : Hid (RAt (w.alloc (.cells #[.slice A b.length c, .bool false] 90)) w.heap.size (some b)) := Lib.hid ⟨A, c, AtC.new _ _ _, h.below (bAl (Below.refl _ _) _), hcap⟩
  have CU := Lib.hid (fun (W : World) (q : RAt W w.heap.size (some b)) => YX.rUint_any w.heap.size (some b) (show b.length ≤ 1000000 by omega) W q)
  have hmb : told (0 : Nat) rdU (some b) = many b := rfl
  have hrb : rest rdU (some b) = behind b := rfl
  rw [hmb, hrb] at CU
  have hls : Lim (behind b) := lim_rest lenU (show b.length ≤ 1000000 by omega)
  have hmn : many b < 18446744073709551616 := YX.told_lt _
  obtain ⟨r, hr⟩ : ∃ r, readL codE b = r := ⟨_, rfl⟩
  have HREF : Hid (∀ k, k ≤ many b → k ≤ 64 → (k = many b ∨ k = 64 ∨ (getN codE k (behind b)).2 = none) → ((getN codE k (behind b)).2 = some [] ∧ writeL codE (getN codE k (behind b)).1 = some b → r = some (getN codE k (behind b)).1) ∧ (¬ ((getN codE k (behind b)).2 = some [] ∧ writeL codE (getN codE k (behind b)).1 = some b) → r = none)) := Lib.hid (fun k a1 a2 a3 => by rw [← hr]; exact readL_ref codE a1 a2 a3)
  have HLIM := Lib.hid (fun k => lim_getN codE hls k)
  have HLN := Lib.hid (fun k => getN_len codE (behind b) k)
  have HFI := Lib.hid (fun k => getN_fine codE (behind b) k)
  rw [hr]
  clear h hmb hrb hls hr
  generalize behind b = s0 at *
  generalize many b = m at *
  go_enter Tryz.func13, Tryz.ntmps13
  go_wp2_with (go_at_call 40; ((refine (CU.out _ R1.out).mono ?_); rintro e w2 ⟨rfl, r2, k2⟩; have R2 := Lib.hid r2; have K2 := Lib.hid ((Kept.trans (P := (· ≠ w.heap.size)) (.of_below B1.out) k2).below (Nat.le_refl _) (fun j hj => show j ≠ w.heap.size by omega)); have HB2 := Lib.hid (show w.heap.size < w2.heap.size from r2.lt); clear r2 k2))
  go_loopw [6, 7] (fun v i wr => ∃ k : Nat, i = .int .u64 k ∧ k ≤ m ∧ k ≤ 64 ∧ Hid (OwnK enK wr w2.heap.size v (getN codE k s0).1) ∧ Hid (RAt wr w.heap.size (getN codE k s0).2) ∧ Below w.heap.size w wr ∧ w2.heap.size ≤ wr.heap.size) (fun _ i _ => 64 - (intOf i).toNat)
  case atStart => exact ⟨0, rfl, by omega, by omega, Lib.hid (OwnK.nil_ _ _ _), R2, K2.out, Nat.le_refl _⟩
  case round =>
    obtain ⟨k, rfl, hk, h64, hO, hR, hb3, hsz⟩ := hrel
    have K3 := Lib.hid hb3
    have hlim := HLIM.out k
    have hlen := HLN.out k
    have hfin := HFI.out k
    have HRK := Lib.hid (HREF.out k hk h64)
    have HN1 : Hid ((getN codE (k + 1) s0).1 = (getN codE k s0).1 ++ [(codE.rd (getN codE k s0).2).1]) := Lib.hid rfl
    have HN2 : Hid ((getN codE (k + 1) s0).2 = (codE.rd (getN codE k s0).2).2) := Lib.hid rfl
    clear B1 R1 R2 K2
    generalize (getN codE k s0).1 = L at *
    generalize (getN codE k s0).2 = st at *
    by_cases hgo : k < m ∧ k < 64 ∧ st ≠ none
    · obtain ⟨g1, g2, g3⟩ := hgo
      have i1 : (k : Int) < (m : Int) := by omega
      have i2 : (k : Int) < 64 := by omega
      have hw : IntKind.u64.wrap ((k : Int) + 1) = (k : Int) + 1 := by simp [IntKind.wrap, IntKind.bits, IntKind.signed]; omega
      obtain ⟨l0, rfl⟩ : ∃ l0, st = some l0 := by cases st with | none => exact absurd rfl g3 | some l0 => exact ⟨l0, rfl⟩
      obtain ⟨A5, c5, at5, rd5, _⟩ : ∃ A c, AtC wr w.heap.size #[.slice A l0.length c, .bool false] ∧ RdK u8K wr w.heap.size A l0 ∧ l0.length ≤ c := hR.out
      have q0 := at5.c 0
      have q1 := at5.c 1
      have CG := Lib.hid (fun W (q : RAt W w.heap.size (some l0)) => rGetEntry_any w.heap.size (some l0) W hlim q)
      have eRD : codE.rd (some l0) = getE (some l0) := rfl
      rw [eRD] at HN1 HN2
      clear at5 rd5 eRD g3 hlim HRK hfin
      generalize (getE (some l0)).1 = x at *
      generalize (getE (some l0)).2 = s2 at *
      go_wp2_with (first
        | (go_at_call 52; ((refine (CG.out _ hR.out).mono ?_); rintro e w4 ⟨rfl, r4, k4⟩; have R4 := Lib.hid r4; have K4 := Lib.hid ((Kept.trans (P := (· ≠ w.heap.size)) (.of_below K3.out) k4).below (Nat.le_refl _) (fun j hj => show j ≠ w.heap.size by omega)); have HS4 := Lib.hid (Nat.le_trans hsz k4.size); have O4 := Lib.hid (hO.out.kept k4 (fun j e => by have h1 := (hO.out.lt j e).1; have h2 := HB2.out; show j ≠ w.heap.size; omega)); clear r4 k4 q0 q1))
        | (at_builtin; refine wpList_spreadK enK rfl (.tmp 31) (.tmp 34) rfl w2.heap.size _ L rfl (O4.out.below (bAl (Below.refl _ _) _)) (w4.heap.size + 1) (some ⟨w4.heap.size, 0, none⟩) 1 1 [x] rfl rfl (RdK.lit (K := enK) w4 x (enC x) rfl 103) ?c1 ?c2 ?_))
      case c1 => simp only [List.length_singleton]; omega
      case c2 => have := HS4.out; simp; omega
      intro v5 w5 o5 g5 f5
      have HB2' := HB2.out
      have b45 : Below w2.heap.size w4 w5 := Below.grown ((Below.refl w2.heap.size w4).alloc HS4.out _) g5 (by have := HS4.out; simp; omega) (fun a ha => (O4.out.lt a ha).1)
      have R5 := Lib.hid (rat_beside R4.out b45 HB2.out)
      have K5 := Lib.hid ((bAl K4.out _).grown g5 (by have := K4.out.size; simp; omega) (fun a ha => Nat.le_trans (Nat.le_of_lt HB2.out) (O4.out.lt a ha).1))
      have HS5 := Lib.hid (Nat.le_trans HS4.out b45.size)
      have O5 := Lib.hid o5
      clear o5 g5 b45
      go_wp2
      go_roundw
      case rel => exact ⟨k + 1, by go_num, by omega, by omega, Lib.hid (by rw [HN1.out]; exact O5.out), Lib.hid (by rw [HN2.out]; exact R5.out), K5.out, HS5.out⟩
      case measure => (simp [intOf]; try omega)
    · have hstop : k = m ∨ k = 64 ∨ st = none := by
        by_cases a : k = m
        · exact .inl a
        · by_cases b : k = 64
          · exact .inr (.inl b)
          · exact .inr (.inr (by cases st with | none => rfl | some l => exact absurd ⟨by omega, by omega, fun e => by cases e⟩ hgo))
      have HRR := Lib.hid (HRK.out hstop)
      have hstop2 : ((k : Int) < (m : Int)) = False ∨ (((k : Int) < (m : Int)) = True ∧ ((k : Int) < 64) = False) ∨ (((k : Int) < (m : Int)) = True ∧ ((k : Int) < 64) = True ∧ st = none) := by
        by_cases a : k < m
        · by_cases b : k < 64
          · exact .inr (.inr ⟨by simp; omega, by simp; omega, hstop.elim (fun q => absurd q (by omega)) (fun q => q.elim (fun q => absurd q (by omega)) id)⟩)
          · exact .inr (.inl ⟨by simp; omega, by simp; omega⟩)
        · exact .inl (by simp; omega)
      obtain ⟨Ao, co, rfl, ro, hco, _⟩ := hO.out.form
      have RO := Lib.hid ro
      have CW := Lib.hid ((refEntries_any Ao co L wr ro hfin (by omega)).mono fun _ _ => bts_telB)
      have CD := Lib.hid (fun W (q : RAt W w.heap.size st) => YX.rDone_any w.heap.size st W q)
      clear HREF HLIM HLN HFI HRK HN1 HN2 ro hO hgo hlim hfin hstop hlen
      have hc1 : ∃ fb, wr.cell? ⟨w.heap.size, 1, none⟩ = some (.bool fb) ∧ (st = none → fb = true) := by
        cases hst : st with
        | none => rw [hst] at hR; exact ⟨true, (AtC.c (C := #[.slice none 0 0, .bool true]) hR.out 1), fun _ => rfl⟩
        | some l0 => rw [hst] at hR; obtain ⟨A5, c5, at5, _⟩ := hR.out; exact ⟨false, at5.c 1, fun e => by cases e⟩
      obtain ⟨fb, q1, hfb⟩ := hc1
      have HY : Hid (st = some [] ∧ writeL codE L = some b ∨ ¬ (st = some [] ∧ writeL codE L = some b)) := Lib.hid (Classical.em _)
      have hN0 : st ≠ some [] → doneB st = false := fun h => by
        cases st with
        | none => rfl
        | some l => cases l with
          | nil => exact absurd rfl h
          | cons x l => rfl
      by_cases hst : st = some []
      · have hd : doneB st = true := by rw [hst]; rfl
        rw [hd] at CD
        cases hW : writeL codE L with
        | none =>
          rw [hW, show nOf (none : Option Bs) = 3 from rfl, show (none : Option Bs).getD [] = [] from rfl] at CW
          have HR0 : Hid (r = none) := Lib.hid (HRR.out.2 (fun q => by rw [hW] at q; cases q.2))
          clear hN0 hst hd hW HRR HY
          rcases hstop2 with i1 | ⟨i1, i2⟩ | ⟨i1, i2, i3⟩
          all_goals
            try have i4 := hfb i3
            clear hfb
            try subst i4
            go_wp2_with (first
              | (go_at_call 53; ((refine CW.out.mono ?_); rintro e w6 ⟨v6, rfl, t6, k6⟩; have K6 := Lib.hid (bThen K3.out k6); have R6 := Lib.hid (hR.out.below k6); clear k6 t6))
              | (go_at_call 43; ((refine (CD.out _ R6.out).mono ?_); rintro e w7 ⟨rfl, rfl⟩)))
            go_ret2
            exact ⟨_, 120, rfl, by rw [HR0.out]; exact .no, K6.out⟩
        | some b2 =>
          rw [hW, show nOf (some b2) = 0 from rfl, show (some b2).getD [] = b2 from rfl] at CW
          by_cases hbb : b2 = b
          · have HR0 : Hid (r = some L) := Lib.hid (HRR.out.1 ⟨hst, by rw [hW, hbb]⟩)
            clear hN0 hst hd hW HRR HY
            subst hbb
            rcases hstop2 with i1 | ⟨i1, i2⟩ | ⟨i1, i2, i3⟩
            all_goals
              try have i4 := hfb i3
              clear hfb
              try subst i4
              go_wp2_with (first
                | (go_at_call 53; ((refine CW.out.mono ?_); rintro e w6 ⟨v6, rfl, t6, k6⟩; have K6 := Lib.hid (bThen K3.out k6); have R6 := Lib.hid (hR.out.below k6); have RO6 := Lib.hid ((RO.out.below k6).more k6.size); have cvo : (convert 22 9 v6).run Tryz.prog w6 = .ok (str b2) w6 := t6 _ (Below.refl _ _); have cvb := YX.conv_str (c := c) ((HIN.out.below K6.out).more K6.out.size) rfl; clear k6 t6))
                | (go_at_call 43; ((refine (CD.out _ R6.out).mono ?_); rintro e w7 ⟨rfl, rfl⟩)))
              go_ret2
              exact ⟨_, 0, rfl, by rw [HR0.out]; exact .yes Ao co L RO6.out, K6.out⟩
          · have HR0 : Hid (r = none) := Lib.hid (HRR.out.2 (fun q => by rw [hW] at q; exact hbb (by injection q.2)))
            have hne : (b2 == b) = false := by simpa using hbb
            clear hN0 hst hd hW HRR HY
            rcases hstop2 with i1 | ⟨i1, i2⟩ | ⟨i1, i2, i3⟩
            all_goals
              try have i4 := hfb i3
              clear hfb
              try subst i4
              go_wp2_with (first
                | (go_at_call 53; ((refine CW.out.mono ?_); rintro e w6 ⟨v6, rfl, t6, k6⟩; have K6 := Lib.hid (bThen K3.out k6); have R6 := Lib.hid (hR.out.below k6); have cvo : (convert 22 9 v6).run Tryz.prog w6 = .ok (str b2) w6 := t6 _ (Below.refl _ _); have cvb := YX.conv_str (c := c) ((HIN.out.below K6.out).more K6.out.size) rfl; clear k6 t6))
                | (go_at_call 43; ((refine (CD.out _ R6.out).mono ?_); rintro e w7 ⟨rfl, rfl⟩)))
              go_ret2
              exact ⟨_, 120, rfl, by rw [HR0.out]; exact .no, K6.out⟩
      · have hd := hN0 hst
        rw [hd] at CD
        have HR0 : Hid (r = none) := Lib.hid (HRR.out.2 (fun q => hst q.1))
        clear hN0 hst hd HRR HY
        generalize nOf (writeL codE L) = nW at *
        generalize (writeL codE L).getD [] = sW at *
        rcases hstop2 with i1 | ⟨i1, i2⟩ | ⟨i1, i2, i3⟩
        all_goals
          try have i4 := hfb i3
          clear hfb
          try subst i4
          go_wp2_with (first
            | (go_at_call 53; ((refine CW.out.mono ?_); rintro e w6 ⟨v6, rfl, t6, k6⟩; have K6 := Lib.hid (bThen K3.out k6); have R6 := Lib.hid (hR.out.below k6); clear k6 t6))
            | (go_at_call 43; ((refine (CD.out _ R6.out).mono ?_); rintro e w7 ⟨rfl, rfl⟩)))
          go_ret2
          exact ⟨_, 120, rfl, by rw [HR0.out]; exact .no, K6.out⟩
end Go.Proofs.YtkgjgbenfpkekaaGreat.PX
