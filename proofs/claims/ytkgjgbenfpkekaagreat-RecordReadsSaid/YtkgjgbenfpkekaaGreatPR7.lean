/-
  WALKS: a list read: read[api.Object].
-/
import Derived.Test.YtkgjgbenfpkekaaGreatPR6
import Derived.Test.YtkgjgbenfpkekaaGreatPRPRow
import Derived.Test.YtkgjgbenfpkekaaGreatYNum
import Derived.Deep.MidRow
import Derived.OwnWalk
namespace Go.Proofs.YtkgjgbenfpkekaaGreat.PX
open Go.RowKit HL
open IX (ptr El cellsK cellsK_at cellsK_len OwnK RdK Kept)
open YX (numB rdU rdB rdT rdS rdI addW intN natI rest told WAt WPt Wr RAt vS vU vI u8K Got)
open DX (zeroCh)
open WX (obK obs_at)
set_option maxRecDepth 100000
set_option linter.unusedVariables false
set_option linter.unusedSimpArgs false

/-- A list and no error, or none and an error. -/
inductive LsO (w : World) : Value → Int → Option (List Ob) → Prop where
  | yes (A : Option Addr) (c : Nat) (l : List Ob) (h : RdK obK w w.heap.size A l) : LsO w (.slice A l.length c) 0 (some l)
  | no : LsO w (.slice none 0 0) 120 none
theorem LsO.below {w w' : World} {v : Value} {e : Int} {r : Option (List Ob)} (h : LsO w v e r) (k : Below w.heap.size w w') : LsO w' v e r := by
  cases h with
  | yes A c l h => exact .yes A c l ((h.below k).more k.size)
  | no => exact .no
theorem all1O (x : Ob) : (obCells x).all (·.oneCell') = true := all_oneCell_toArray (fun v hv => by simp at hv; rcases hv with rfl | rfl | rfl | rfl | rfl | rfl | rfl | rfl | rfl | rfl | rfl | rfl | rfl | rfl <;> rfl)
set_option maxHeartbeats 8000000 in
theorem readO_any (A : Option Addr) (c : Nat) (b : Bs) (w : World) (h : RdK u8K w w.heap.size A b) (hb : b.length ≤ 1000000) (hA : A = none → c = 0) :
    Calls Tryz.prog 37 #[.slice A b.length c, fn 38, fn 39] w fun e w' => ∃ v n, e = .returned (.tuple #[v, .int .i64 n]) ∧ LsO w' v n (readL codO b) ∧ Below w.heap.size w w' := by
  have CR := Lib.hid (YX.read_any A c b w h hb hA)
  have H := Lib.hid h
  have hmn : many b < 18446744073709551616 := YX.told_lt _
  have CU := Lib.hid (fun (B : Nat) (W : World) (q : RAt W B (some b)) => YX.unsigned_any2 B (some b) W q)
  have hent := enters_of Tryz.func38 (by kernel_rfl) rfl
  by_cases h64 : 64 < many b
  · have i1 : (64 : Int) < (many b : Int) := by omega
    have HE : Hid (readL codO b = none) := Lib.hid (by unfold readL; rw [if_pos h64])
    have hmb : told (0 : Nat) rdU (some b) = many b := rfl
    rw [hmb] at CU
    clear h hmb
    generalize many b = m at *
    go_enter Tryz.func37, Tryz.ntmps37
    go_wp2_with (first
      | (go_at_call 85; ((refine CR.out.mono ?_); rintro e w1 ⟨B, rfl, r1, hB, k1⟩; have R1 := Lib.hid r1; have K1 := Lib.hid k1; clear r1 k1))
      | (go_at_call 86; ((refine (CU.out _ _ R1.out).mono ?_); rintro e w2 ⟨rfl, r2, k2⟩; have K2 := Lib.hid (K1.out.trans (k2.below K1.out.size (fun j hj => show j ≠ B by omega))); clear r2 k2)))
    go_ret2
    exact ⟨_, 120, rfl, by rw [HE.out]; exact .no, K2.out⟩
  · have i1 : ¬ (64 : Int) < (many b : Int) := by omega
    have hmb : told (0 : Nat) rdU (some b) = many b := rfl
    have hrb : rest rdU (some b) = behind b := rfl
    rw [hmb, hrb] at CU
    have hF := getN_fine codO (behind b) (many b)
    have hLn := getN_len codO (behind b) (many b)
    have HE : Hid (∀ r, r = writeL codO (getN codO (many b) (behind b)).1 → readL codO b = if r = some b then some (getN codO (many b) (behind b)).1 else none) := Lib.hid (fun r hr => by unfold readL; rw [if_neg h64, ← hr])
    clear h hmb hrb
    generalize many b = m at *
    obtain ⟨s0, hs0⟩ : ∃ s0, behind b = s0 := ⟨_, rfl⟩
    rw [hs0] at CU hF hLn HE
    clear hs0
    have hmk : ∀ W : World, (Instr.makeSlice 23 (.int .u64 m) (.int .u64 m)).run Tryz.prog W = .ok (.slice (some ⟨W.heap.size, 0, none⟩) m m) (W.alloc (.cells (madeCells (obCells zeroOb) (m * 14)) 45)) := fun W => by
      have := run_makeSlice (P := Tryz.prog) W 23 45 (IX.infoOf 45) (ob zeroOb) Tryz.underlying23 (by kernel_rfl) (by kernel_rfl) .u64 .u64 (m : Int) (m : Int) (by omega) (Int.le_refl _) (by
        have e : (IX.infoOf 45).size = 14 := by kernel_rfl
        rw [e]; simp; omega) (by
        have e : (IX.infoOf 45).bytes ≤ 1000 := of_decide_eq_true (by kernel_rfl)
        have : ((IX.infoOf 45).bytes : Int) * (m : Int) ≤ 1000 * 64 := by
          have := Nat.mul_le_mul e (show m ≤ 64 by omega)
          exact_mod_cast this
        omega) (by omega)
      have e : (IX.infoOf 45).size = 14 := by kernel_rfl
      rw [e, show (ob zeroOb : Value).cells = obCells zeroOb from rfl] at this
      simpa using this
    have HM : Hid (∀ W : World, RowAt obK (W.alloc (.cells (madeCells (obCells zeroOb) (m * 14)) 45)) W.heap.size (List.replicate m zeroOb)) := Lib.hid (fun W => row_made obK zeroOb (obCells zeroOb) rfl m W _)
    generalize madeCells (obCells zeroOb) (m * 14) = MC at *
    have CG := Lib.hid (fun (B : Nat) (W : World) (s : Option Bs) (q : RAt W B s) => getObject_any B s W q)
    go_enter Tryz.func37, Tryz.ntmps37
    go_wp2_with (first
      | (go_at_call 85; ((refine CR.out.mono ?_); rintro e w1 ⟨B, rfl, r1, hB, k1⟩; have R1 := Lib.hid r1; have K1 := Lib.hid k1; clear r1 k1))
      | (go_at_call 86; ((refine (CU.out _ _ R1.out).mono ?_); rintro e w2 ⟨rfl, r2, k2⟩; have hBg := r2.lt; have R2 := Lib.hid (r2.below (bAl (Below.refl _ w2) (.cells MC 45))); have K2 := Lib.hid (bAl (K1.out.trans (k2.below K1.out.size (fun j hj => show j ≠ B by omega))) (.cells MC 45)); have G2 := Lib.hid (HM.out w2); have hgw : w.heap.size ≤ w2.heap.size := (Nat.le_trans K1.out.size k2.size); clear r2 k2)))
    generalize w2.alloc (.cells MC 45) = w3 at *
    generalize w2.heap.size = g at *
    clear hmk HM CR CU K1 R1
    go_loopw [24] (fun i wr => ∃ k : Nat, i = .int .i64 k ∧ k ≤ m ∧ Hid (RAt wr B (getN codO k s0).2) ∧ Hid (RowAt obK wr g ((getN codO k s0).1 ++ List.replicate (m - k) zeroOb)) ∧ Below w.heap.size w wr) (fun i _ => m - (intOf i).toNat)
    case atStart => exact ⟨0, rfl, by omega, R2, G2, K2.out⟩
    case round =>
      obtain ⟨k, rfl, hk, HR, HG, k3⟩ := hrel
      have K3 := Lib.hid k3
      by_cases hlt : k < m
      · have i2 : (k : Int) < (m : Int) := by omega
        have CGk := CG.out B wr (getN codO k s0).2 HR.out
        have hln := getN_len codO s0 k
        obtain ⟨⟨x, s2⟩, hq⟩ : ∃ q, codO.rd (getN codO k s0).2 = q := ⟨_, rfl⟩
        have hN : Hid (getN codO (k + 1) s0 = ((getN codO k s0).1 ++ [x], s2)) := Lib.hid (by simp only [getN]; rw [hq])
        have hq' : getO (getN codO k s0).2 = (x, s2) := hq
        rw [hq'] at CGk
        replace CGk := Lib.hid CGk
        have HT : Hid (∀ W, RowAt obK W g ((getN codO k s0).1 ++ List.replicate (m - k) zeroOb) → W.there g (k * 14) (obCells x).size) := Lib.hid (fun W q => row_there q (by rw [List.length_append, List.length_replicate, hln]; omega))
        have HS : Hid (∀ W, RowAt obK W g ((getN codO k s0).1 ++ List.replicate (m - k) zeroOb) → RowAt obK (W.setCells g (k * 14) (obCells x).toList) g ((getN codO (k + 1) s0).1 ++ List.replicate (m - (k + 1)) zeroOb)) := Lib.hid (fun W q => by
          have := row_set q (k := k) (by rw [List.length_append, List.length_replicate, hln]; omega) x
          rw [set_rep _ _ _ hln hlt] at this
          rw [hN.out, setCells_row]
          exact this)
        have h1 := all1O x
        clear hq hq' hln
        go_wp2_with (first
          | ((refine CGk.out.mono ?_); rintro e w4 ⟨rfl, r4, k4⟩; have RR4 := Lib.hid r4; have g4 := HG.out.kept k4 (show g ≠ B by omega); have ht4 := HT.out w4 g4; have hs4 := Lib.hid (HS.out w4 g4); have K4 := Lib.hid (K3.out.trans (k4.below K3.out.size (fun j hj => show j ≠ B by omega))); clear r4 k4)
          | ((show wpList _ _ _ [_] _ _); (refine wpList_store_mid rfl _ _ _ rfl g (k * 14) (obCells x) rfl rfl ht4 (by kernel_rfl) h1 ?_)))
        go_roundw
        case rel =>
          have kS : ∀ P : Nat → Prop, (g < w4.heap.size → ¬ P g) → Kept w4 (w4.setCells g (k * 14) (obCells x).toList) P := fun P hP => by rw [setCells_row]; exact kept_stC hP _ _ _ (Kept.refl _ _)
          exact ⟨k + 1, by go_num, by omega, Lib.hid (by rw [hN.out]; exact RR4.out.other (B2 := g) (kS (· ≠ g) (fun _ q => q rfl)) hBg), hs4, K4.out.trans ((kS (· ≠ g) (fun _ q => q rfl)).below K4.out.size (fun j hj => show j ≠ g by omega))⟩
        case measure => simp [intOf]; omega
      · obtain rfl : k = m := by omega
        have i2 : ¬ (k : Int) < (k : Int) := by omega
        obtain ⟨l, hl⟩ : ∃ l, (getN codO k s0).1 = l := ⟨_, rfl⟩
        rw [hl] at hF hLn HE
        rw [hl, Nat.sub_self, List.replicate_zero, List.append_nil] at HG
        have CW := writeO_any (some ⟨g, 0, none⟩) k l wr HG.out.rd hF (by omega)
        have RL := Lib.hid HG.out.rd
        have RB := Lib.hid ((H.out.below K3.out).more K3.out.size)
        obtain ⟨r, hr⟩ : ∃ r, writeL codO l = r := ⟨_, rfl⟩
        have HE2 := Lib.hid (HE.out r hr.symm)
        rw [hr, hLn] at CW
        have HLn := Lib.hid hLn
        clear hl hF hr HE HG H HR hLn
        cases r with
        | none =>
          have C := Lib.hid (bts_none CW)
          clear CW
          go_wp2_with (go_at_call 87; ((refine C.out.mono ?_); rintro e w6 ⟨rfl, k6⟩; have K6 := Lib.hid (bThen K3.out k6); clear k6))
          go_ret2
          exact ⟨_, 120, rfl, by rw [HE2.out]; exact .no, K6.out⟩
        | some b2 =>
          have C := Lib.hid (bts_some CW)
          clear CW
          have CE := Lib.hid (fun (W : World) (k6 : Below wr.heap.size wr W) A6 c6 (q : RdK u8K W W.heap.size A6 b2) => equal_any (A := A6) (A2 := A) (c := c6) (c2 := c) b2 b W q ((RB.out.below k6).more k6.size) rfl rfl)
          by_cases hbb : b2 = b
          · have hd : decide (b2 = b) = true := decide_eq_true hbb
            rw [hd] at CE
            have HB2 := Lib.hid hbb
            clear hd hbb
            go_wp2_with (first
              | (go_at_call 87; ((refine C.out.mono ?_); rintro e w6 ⟨A6, c6, rfl, q6, k6⟩; have C6 := Lib.hid (CE.out w6 k6 A6 c6 q6); have K6 := Lib.hid (bThen K3.out k6); have RL6 := Lib.hid ((RL.out.below k6).more k6.size); clear k6 q6))
              | (go_at_call 88; ((refine C6.out.mono ?_); rintro e w7 ⟨rfl, rfl⟩)))
            go_ret2
            have e9 : readL codO b = some l := by rw [HE2.out, if_pos (by rw [HB2.out])]
            have := LsO.yes (w := w6) (some ⟨g, 0, none⟩) k l RL6.out
            rw [HLn.out] at this
            exact ⟨_, 0, rfl, by rw [e9]; exact this, K6.out⟩
          · have hd : decide (b2 = b) = false := decide_eq_false hbb
            rw [hd] at CE
            have HB2 := Lib.hid hbb
            clear hd hbb
            go_wp2_with (first
              | (go_at_call 87; ((refine C.out.mono ?_); rintro e w6 ⟨A6, c6, rfl, q6, k6⟩; have C6 := Lib.hid (CE.out w6 k6 A6 c6 q6); have K6 := Lib.hid (bThen K3.out k6); clear k6 q6))
              | (go_at_call 88; ((refine C6.out.mono ?_); rintro e w7 ⟨rfl, rfl⟩)))
            go_ret2
            have e9 : readL codO b = none := by rw [HE2.out, if_neg (fun q => HB2.out (by injection q))]
            exact ⟨_, 120, rfl, by rw [e9]; exact .no, K6.out⟩
theorem rlawO_any (A : Option Addr) (c : Nat) (b : Bs) (w : World) (h : RdK u8K w w.heap.size A b) (hb : b.length ≤ 1000000) (hA : A = none → c = 0) :
    Calls Tryz.prog 8 #[.slice A b.length c] w fun e w' => ∃ v n, e = .returned (.tuple #[v, .int .i64 n]) ∧ LsO w' v n (readL codO b) ∧ Below w.heap.size w w' := by
  have C := Lib.hid (readO_any A c b w h hb hA)
  clear h
  obtain ⟨r, hr⟩ : ∃ r, readL codO b = r := ⟨_, rfl⟩
  rw [hr] at C ⊢
  clear hr
  go_enter Tryz.func8, Tryz.ntmps8
  go_wp2_with (go_at_call 37; ((refine C.out.mono ?_); rintro e w6 ⟨v, n, rfl, b6, k6⟩; have B6 := Lib.hid b6; have K6 := Lib.hid k6; clear b6 k6))
  go_ret2
  exact ⟨v, n, rfl, B6.out, K6.out⟩
end Go.Proofs.YtkgjgbenfpkekaaGreat.PX
/-
  WALKS: a list read: read[api.Change].
-/
namespace Go.Proofs.YtkgjgbenfpkekaaGreat.PX
open Go.RowKit HL
open IX (ptr El cellsK cellsK_at cellsK_len OwnK RdK Kept)
open YX (numB rdU rdB rdT rdS rdI addW intN natI rest told WAt WPt Wr RAt vS vU vI u8K Got)
open DX (zeroCh)
open DX (Ch ch chCells chK)
set_option maxRecDepth 100000
set_option linter.unusedVariables false
set_option linter.unusedSimpArgs false

/-- A list and no error, or none and an error. -/
inductive LsC (w : World) : Value → Int → Option (List Ch) → Prop where
  | yes (A : Option Addr) (c : Nat) (l : List Ch) (h : RdK chK w w.heap.size A l) : LsC w (.slice A l.length c) 0 (some l)
  | no : LsC w (.slice none 0 0) 120 none
theorem LsC.below {w w' : World} {v : Value} {e : Int} {r : Option (List Ch)} (h : LsC w v e r) (k : Below w.heap.size w w') : LsC w' v e r := by
  cases h with
  | yes A c l h => exact .yes A c l ((h.below k).more k.size)
  | no => exact .no
theorem all1C (x : Ch) : (chCells x).all (·.oneCell') = true := all_oneCell_toArray (fun v hv => by simp at hv; rcases hv with rfl | rfl | rfl | rfl | rfl | rfl | rfl | rfl | rfl | rfl | rfl | rfl | rfl | rfl | rfl <;> rfl)
set_option maxHeartbeats 8000000 in
theorem readC_any (A : Option Addr) (c : Nat) (b : Bs) (w : World) (h : RdK u8K w w.heap.size A b) (hb : b.length ≤ 1000000) (hA : A = none → c = 0) :
    Calls Tryz.prog 44 #[.slice A b.length c, fn 45, fn 46] w fun e w' => ∃ v n, e = .returned (.tuple #[v, .int .i64 n]) ∧ LsC w' v n (readL codC b) ∧ Below w.heap.size w w' := by
  have CR := Lib.hid (YX.read_any A c b w h hb hA)
  have H := Lib.hid h
  have hmn : many b < 18446744073709551616 := YX.told_lt _
  have CU := Lib.hid (fun (B : Nat) (W : World) (q : RAt W B (some b)) => YX.unsigned_any2 B (some b) W q)
  have hent := enters_of Tryz.func45 (by kernel_rfl) rfl
  by_cases h64 : 64 < many b
  · have i1 : (64 : Int) < (many b : Int) := by omega
    have HE : Hid (readL codC b = none) := Lib.hid (by unfold readL; rw [if_pos h64])
    have hmb : told (0 : Nat) rdU (some b) = many b := rfl
    rw [hmb] at CU
    clear h hmb
    generalize many b = m at *
    go_enter Tryz.func44, Tryz.ntmps44
    go_wp2_with (first
      | (go_at_call 85; ((refine CR.out.mono ?_); rintro e w1 ⟨B, rfl, r1, hB, k1⟩; have R1 := Lib.hid r1; have K1 := Lib.hid k1; clear r1 k1))
      | (go_at_call 86; ((refine (CU.out _ _ R1.out).mono ?_); rintro e w2 ⟨rfl, r2, k2⟩; have K2 := Lib.hid (K1.out.trans (k2.below K1.out.size (fun j hj => show j ≠ B by omega))); clear r2 k2)))
    go_ret2
    exact ⟨_, 120, rfl, by rw [HE.out]; exact .no, K2.out⟩
  · have i1 : ¬ (64 : Int) < (many b : Int) := by omega
    have hmb : told (0 : Nat) rdU (some b) = many b := rfl
    have hrb : rest rdU (some b) = behind b := rfl
    rw [hmb, hrb] at CU
    have hF := getN_fine codC (behind b) (many b)
    have hLn := getN_len codC (behind b) (many b)
    have HE : Hid (∀ r, r = writeL codC (getN codC (many b) (behind b)).1 → readL codC b = if r = some b then some (getN codC (many b) (behind b)).1 else none) := Lib.hid (fun r hr => by unfold readL; rw [if_neg h64, ← hr])
    clear h hmb hrb
    generalize many b = m at *
    obtain ⟨s0, hs0⟩ : ∃ s0, behind b = s0 := ⟨_, rfl⟩
    rw [hs0] at CU hF hLn HE
    clear hs0
    have hmk : ∀ W : World, (Instr.makeSlice 29 (.int .u64 m) (.int .u64 m)).run Tryz.prog W = .ok (.slice (some ⟨W.heap.size, 0, none⟩) m m) (W.alloc (.cells (madeCells (chCells zeroCh) (m * 15)) 47)) := fun W => by
      have := run_makeSlice (P := Tryz.prog) W 29 47 (IX.infoOf 47) (ch zeroCh) Tryz.underlying29 (by kernel_rfl) (by kernel_rfl) .u64 .u64 (m : Int) (m : Int) (by omega) (Int.le_refl _) (by
        have e : (IX.infoOf 47).size = 15 := by kernel_rfl
        rw [e]; simp; omega) (by
        have e : (IX.infoOf 47).bytes ≤ 1000 := of_decide_eq_true (by kernel_rfl)
        have : ((IX.infoOf 47).bytes : Int) * (m : Int) ≤ 1000 * 64 := by
          have := Nat.mul_le_mul e (show m ≤ 64 by omega)
          exact_mod_cast this
        omega) (by omega)
      have e : (IX.infoOf 47).size = 15 := by kernel_rfl
      rw [e, show (ch zeroCh : Value).cells = chCells zeroCh from rfl] at this
      simpa using this
    have HM : Hid (∀ W : World, RowAt chK (W.alloc (.cells (madeCells (chCells zeroCh) (m * 15)) 47)) W.heap.size (List.replicate m zeroCh)) := Lib.hid (fun W => row_made chK zeroCh (chCells zeroCh) rfl m W _)
    generalize madeCells (chCells zeroCh) (m * 15) = MC at *
    have CG := Lib.hid (fun (B : Nat) (W : World) (s : Option Bs) (q : RAt W B s) => getChange_any B s W q)
    go_enter Tryz.func44, Tryz.ntmps44
    go_wp2_with (first
      | (go_at_call 85; ((refine CR.out.mono ?_); rintro e w1 ⟨B, rfl, r1, hB, k1⟩; have R1 := Lib.hid r1; have K1 := Lib.hid k1; clear r1 k1))
      | (go_at_call 86; ((refine (CU.out _ _ R1.out).mono ?_); rintro e w2 ⟨rfl, r2, k2⟩; have hBg := r2.lt; have R2 := Lib.hid (r2.below (bAl (Below.refl _ w2) (.cells MC 47))); have K2 := Lib.hid (bAl (K1.out.trans (k2.below K1.out.size (fun j hj => show j ≠ B by omega))) (.cells MC 47)); have G2 := Lib.hid (HM.out w2); have hgw : w.heap.size ≤ w2.heap.size := (Nat.le_trans K1.out.size k2.size); clear r2 k2)))
    generalize w2.alloc (.cells MC 47) = w3 at *
    generalize w2.heap.size = g at *
    clear hmk HM CR CU K1 R1
    go_loopw [24] (fun i wr => ∃ k : Nat, i = .int .i64 k ∧ k ≤ m ∧ Hid (RAt wr B (getN codC k s0).2) ∧ Hid (RowAt chK wr g ((getN codC k s0).1 ++ List.replicate (m - k) zeroCh)) ∧ Below w.heap.size w wr) (fun i _ => m - (intOf i).toNat)
    case atStart => exact ⟨0, rfl, by omega, R2, G2, K2.out⟩
    case round =>
      obtain ⟨k, rfl, hk, HR, HG, k3⟩ := hrel
      have K3 := Lib.hid k3
      by_cases hlt : k < m
      · have i2 : (k : Int) < (m : Int) := by omega
        have CGk := CG.out B wr (getN codC k s0).2 HR.out
        have hln := getN_len codC s0 k
        obtain ⟨⟨x, s2⟩, hq⟩ : ∃ q, codC.rd (getN codC k s0).2 = q := ⟨_, rfl⟩
        have hN : Hid (getN codC (k + 1) s0 = ((getN codC k s0).1 ++ [x], s2)) := Lib.hid (by simp only [getN]; rw [hq])
        have hq' : getC (getN codC k s0).2 = (x, s2) := hq
        rw [hq'] at CGk
        replace CGk := Lib.hid CGk
        have HT : Hid (∀ W, RowAt chK W g ((getN codC k s0).1 ++ List.replicate (m - k) zeroCh) → W.there g (k * 15) (chCells x).size) := Lib.hid (fun W q => row_there q (by rw [List.length_append, List.length_replicate, hln]; omega))
        have HS : Hid (∀ W, RowAt chK W g ((getN codC k s0).1 ++ List.replicate (m - k) zeroCh) → RowAt chK (W.setCells g (k * 15) (chCells x).toList) g ((getN codC (k + 1) s0).1 ++ List.replicate (m - (k + 1)) zeroCh)) := Lib.hid (fun W q => by
          have := row_set q (k := k) (by rw [List.length_append, List.length_replicate, hln]; omega) x
          rw [set_rep _ _ _ hln hlt] at this
          rw [hN.out, setCells_row]
          exact this)
        have h1 := all1C x
        clear hq hq' hln
        go_wp2_with (first
          | ((refine CGk.out.mono ?_); rintro e w4 ⟨rfl, r4, k4⟩; have RR4 := Lib.hid r4; have g4 := HG.out.kept k4 (show g ≠ B by omega); have ht4 := HT.out w4 g4; have hs4 := Lib.hid (HS.out w4 g4); have K4 := Lib.hid (K3.out.trans (k4.below K3.out.size (fun j hj => show j ≠ B by omega))); clear r4 k4)
          | ((show wpList _ _ _ [_] _ _); (refine wpList_store_mid rfl _ _ _ rfl g (k * 15) (chCells x) rfl rfl ht4 (by kernel_rfl) h1 ?_)))
        go_roundw
        case rel =>
          have kS : ∀ P : Nat → Prop, (g < w4.heap.size → ¬ P g) → Kept w4 (w4.setCells g (k * 15) (chCells x).toList) P := fun P hP => by rw [setCells_row]; exact kept_stC hP _ _ _ (Kept.refl _ _)
          exact ⟨k + 1, by go_num, by omega, Lib.hid (by rw [hN.out]; exact RR4.out.other (B2 := g) (kS (· ≠ g) (fun _ q => q rfl)) hBg), hs4, K4.out.trans ((kS (· ≠ g) (fun _ q => q rfl)).below K4.out.size (fun j hj => show j ≠ g by omega))⟩
        case measure => simp [intOf]; omega
      · obtain rfl : k = m := by omega
        have i2 : ¬ (k : Int) < (k : Int) := by omega
        obtain ⟨l, hl⟩ : ∃ l, (getN codC k s0).1 = l := ⟨_, rfl⟩
        rw [hl] at hF hLn HE
        rw [hl, Nat.sub_self, List.replicate_zero, List.append_nil] at HG
        have CW := writeC_any (some ⟨g, 0, none⟩) k l wr HG.out.rd hF (by omega)
        have RL := Lib.hid HG.out.rd
        have RB := Lib.hid ((H.out.below K3.out).more K3.out.size)
        obtain ⟨r, hr⟩ : ∃ r, writeL codC l = r := ⟨_, rfl⟩
        have HE2 := Lib.hid (HE.out r hr.symm)
        rw [hr, hLn] at CW
        have HLn := Lib.hid hLn
        clear hl hF hr HE HG H HR hLn
        cases r with
        | none =>
          have C := Lib.hid (bts_none CW)
          clear CW
          go_wp2_with (go_at_call 98; ((refine C.out.mono ?_); rintro e w6 ⟨rfl, k6⟩; have K6 := Lib.hid (bThen K3.out k6); clear k6))
          go_ret2
          exact ⟨_, 120, rfl, by rw [HE2.out]; exact .no, K6.out⟩
        | some b2 =>
          have C := Lib.hid (bts_some CW)
          clear CW
          have CE := Lib.hid (fun (W : World) (k6 : Below wr.heap.size wr W) A6 c6 (q : RdK u8K W W.heap.size A6 b2) => equal_any (A := A6) (A2 := A) (c := c6) (c2 := c) b2 b W q ((RB.out.below k6).more k6.size) rfl rfl)
          by_cases hbb : b2 = b
          · have hd : decide (b2 = b) = true := decide_eq_true hbb
            rw [hd] at CE
            have HB2 := Lib.hid hbb
            clear hd hbb
            go_wp2_with (first
              | (go_at_call 98; ((refine C.out.mono ?_); rintro e w6 ⟨A6, c6, rfl, q6, k6⟩; have C6 := Lib.hid (CE.out w6 k6 A6 c6 q6); have K6 := Lib.hid (bThen K3.out k6); have RL6 := Lib.hid ((RL.out.below k6).more k6.size); clear k6 q6))
              | (go_at_call 88; ((refine C6.out.mono ?_); rintro e w7 ⟨rfl, rfl⟩)))
            go_ret2
            have e9 : readL codC b = some l := by rw [HE2.out, if_pos (by rw [HB2.out])]
            have := LsC.yes (w := w6) (some ⟨g, 0, none⟩) k l RL6.out
            rw [HLn.out] at this
            exact ⟨_, 0, rfl, by rw [e9]; exact this, K6.out⟩
          · have hd : decide (b2 = b) = false := decide_eq_false hbb
            rw [hd] at CE
            have HB2 := Lib.hid hbb
            clear hd hbb
            go_wp2_with (first
              | (go_at_call 98; ((refine C.out.mono ?_); rintro e w6 ⟨A6, c6, rfl, q6, k6⟩; have C6 := Lib.hid (CE.out w6 k6 A6 c6 q6); have K6 := Lib.hid (bThen K3.out k6); clear k6 q6))
              | (go_at_call 88; ((refine C6.out.mono ?_); rintro e w7 ⟨rfl, rfl⟩)))
            go_ret2
            have e9 : readL codC b = none := by rw [HE2.out, if_neg (fun q => HB2.out (by injection q))]
            exact ⟨_, 120, rfl, by rw [e9]; exact .no, K6.out⟩
theorem rlawC_any (A : Option Addr) (c : Nat) (b : Bs) (w : World) (h : RdK u8K w w.heap.size A b) (hb : b.length ≤ 1000000) (hA : A = none → c = 0) :
    Calls Tryz.prog 10 #[.slice A b.length c] w fun e w' => ∃ v n, e = .returned (.tuple #[v, .int .i64 n]) ∧ LsC w' v n (readL codC b) ∧ Below w.heap.size w w' := by
  have C := Lib.hid (readC_any A c b w h hb hA)
  clear h
  obtain ⟨r, hr⟩ : ∃ r, readL codC b = r := ⟨_, rfl⟩
  rw [hr] at C ⊢
  clear hr
  go_enter Tryz.func10, Tryz.ntmps10
  go_wp2_with (go_at_call 44; ((refine C.out.mono ?_); rintro e w6 ⟨v, n, rfl, b6, k6⟩; have B6 := Lib.hid b6; have K6 := Lib.hid k6; clear b6 k6))
  go_ret2
  exact ⟨v, n, rfl, B6.out, K6.out⟩
end Go.Proofs.YtkgjgbenfpkekaaGreat.PX
/-
  WALKS: a list read: read[api.Entry].
-/
namespace Go.Proofs.YtkgjgbenfpkekaaGreat.PX
open Go.RowKit HL
open IX (ptr El cellsK cellsK_at cellsK_len OwnK RdK Kept)
open YX (numB rdU rdB rdT rdS rdI addW intN natI rest told WAt WPt Wr RAt vS vU vI u8K Got)
open DX (zeroCh)

set_option maxRecDepth 100000
set_option linter.unusedVariables false
set_option linter.unusedSimpArgs false

/-- A list and no error, or none and an error. -/
inductive LsE (w : World) : Value → Int → Option (List En) → Prop where
  | yes (A : Option Addr) (c : Nat) (l : List En) (h : RdK enK w w.heap.size A l) : LsE w (.slice A l.length c) 0 (some l)
  | no : LsE w (.slice none 0 0) 120 none
theorem LsE.below {w w' : World} {v : Value} {e : Int} {r : Option (List En)} (h : LsE w v e r) (k : Below w.heap.size w w') : LsE w' v e r := by
  cases h with
  | yes A c l h => exact .yes A c l ((h.below k).more k.size)
  | no => exact .no
theorem all1E (x : En) : (enC x).all (·.oneCell') = true := all_oneCell_toArray (fun v hv => by simp at hv; rcases hv with rfl | rfl | rfl | rfl | rfl | rfl | rfl | rfl | rfl | rfl | rfl | rfl | rfl | rfl | rfl | rfl | rfl | rfl <;> rfl)
set_option maxHeartbeats 8000000 in
theorem readE_any (A : Option Addr) (c : Nat) (b : Bs) (w : World) (h : RdK u8K w w.heap.size A b) (hb : b.length ≤ 1000000) (hA : A = none → c = 0) :
    Calls Tryz.prog 49 #[.slice A b.length c, fn 50, fn 51] w fun e w' => ∃ v n, e = .returned (.tuple #[v, .int .i64 n]) ∧ LsE w' v n (readL codE b) ∧ Below w.heap.size w w' := by
  have CR := Lib.hid (YX.read_any A c b w h hb hA)
  have H := Lib.hid h
  have hmn : many b < 18446744073709551616 := YX.told_lt _
  have CU := Lib.hid (fun (B : Nat) (W : World) (q : RAt W B (some b)) => YX.unsigned_any2 B (some b) W q)
  have hent := enters_of Tryz.func50 (by kernel_rfl) rfl
  by_cases h64 : 64 < many b
  · have i1 : (64 : Int) < (many b : Int) := by omega
    have HE : Hid (readL codE b = none) := Lib.hid (by unfold readL; rw [if_pos h64])
    have hmb : told (0 : Nat) rdU (some b) = many b := rfl
    rw [hmb] at CU
    clear h hmb
    generalize many b = m at *
    go_enter Tryz.func49, Tryz.ntmps49
    go_wp2_with (first
      | (go_at_call 85; ((refine CR.out.mono ?_); rintro e w1 ⟨B, rfl, r1, hB, k1⟩; have R1 := Lib.hid r1; have K1 := Lib.hid k1; clear r1 k1))
      | (go_at_call 86; ((refine (CU.out _ _ R1.out).mono ?_); rintro e w2 ⟨rfl, r2, k2⟩; have K2 := Lib.hid (K1.out.trans (k2.below K1.out.size (fun j hj => show j ≠ B by omega))); clear r2 k2)))
    go_ret2
    exact ⟨_, 120, rfl, by rw [HE.out]; exact .no, K2.out⟩
  · have i1 : ¬ (64 : Int) < (many b : Int) := by omega
    have hmb : told (0 : Nat) rdU (some b) = many b := rfl
    have hrb : rest rdU (some b) = behind b := rfl
    rw [hmb, hrb] at CU
    have hF := getN_fine codE (behind b) (many b)
    have hLn := getN_len codE (behind b) (many b)
    have HE : Hid (∀ r, r = writeL codE (getN codE (many b) (behind b)).1 → readL codE b = if r = some b then some (getN codE (many b) (behind b)).1 else none) := Lib.hid (fun r hr => by unfold readL; rw [if_neg h64, ← hr])
    clear h hmb hrb
    generalize many b = m at *
    obtain ⟨s0, hs0⟩ : ∃ s0, behind b = s0 := ⟨_, rfl⟩
    rw [hs0] at CU hF hLn HE
    clear hs0
    have hmk : ∀ W : World, (Instr.makeSlice 34 (.int .u64 m) (.int .u64 m)).run Tryz.prog W = .ok (.slice (some ⟨W.heap.size, 0, none⟩) m m) (W.alloc (.cells (madeCells (enC zeroEn) (m * 18)) 103)) := fun W => by
      have := run_makeSlice (P := Tryz.prog) W 34 103 (IX.infoOf 103) (en zeroEn) Tryz.underlying34 (by kernel_rfl) (by kernel_rfl) .u64 .u64 (m : Int) (m : Int) (by omega) (Int.le_refl _) (by
        have e : (IX.infoOf 103).size = 18 := by kernel_rfl
        rw [e]; simp; omega) (by
        have e : (IX.infoOf 103).bytes ≤ 1000 := of_decide_eq_true (by kernel_rfl)
        have : ((IX.infoOf 103).bytes : Int) * (m : Int) ≤ 1000 * 64 := by
          have := Nat.mul_le_mul e (show m ≤ 64 by omega)
          exact_mod_cast this
        omega) (by omega)
      have e : (IX.infoOf 103).size = 18 := by kernel_rfl
      rw [e, show (en zeroEn : Value).cells = enC zeroEn from rfl] at this
      simpa using this
    have HM : Hid (∀ W : World, RowAt enK (W.alloc (.cells (madeCells (enC zeroEn) (m * 18)) 103)) W.heap.size (List.replicate m zeroEn)) := Lib.hid (fun W => row_made enK zeroEn (enC zeroEn) rfl m W _)
    generalize madeCells (enC zeroEn) (m * 18) = MC at *
    have CG := Lib.hid (fun (B : Nat) (W : World) (s : Option Bs) (q : RAt W B s) => getEntry_any B s W q)
    go_enter Tryz.func49, Tryz.ntmps49
    go_wp2_with (first
      | (go_at_call 85; ((refine CR.out.mono ?_); rintro e w1 ⟨B, rfl, r1, hB, k1⟩; have R1 := Lib.hid r1; have K1 := Lib.hid k1; clear r1 k1))
      | (go_at_call 86; ((refine (CU.out _ _ R1.out).mono ?_); rintro e w2 ⟨rfl, r2, k2⟩; have hBg := r2.lt; have R2 := Lib.hid (r2.below (bAl (Below.refl _ w2) (.cells MC 103))); have K2 := Lib.hid (bAl (K1.out.trans (k2.below K1.out.size (fun j hj => show j ≠ B by omega))) (.cells MC 103)); have G2 := Lib.hid (HM.out w2); have hgw : w.heap.size ≤ w2.heap.size := (Nat.le_trans K1.out.size k2.size); clear r2 k2)))
    generalize w2.alloc (.cells MC 103) = w3 at *
    generalize w2.heap.size = g at *
    clear hmk HM CR CU K1 R1
    go_loopw [24] (fun i wr => ∃ k : Nat, i = .int .i64 k ∧ k ≤ m ∧ Hid (RAt wr B (getN codE k s0).2) ∧ Hid (RowAt enK wr g ((getN codE k s0).1 ++ List.replicate (m - k) zeroEn)) ∧ Below w.heap.size w wr) (fun i _ => m - (intOf i).toNat)
    case atStart => exact ⟨0, rfl, by omega, R2, G2, K2.out⟩
    case round =>
      obtain ⟨k, rfl, hk, HR, HG, k3⟩ := hrel
      have K3 := Lib.hid k3
      by_cases hlt : k < m
      · have i2 : (k : Int) < (m : Int) := by omega
        have CGk := CG.out B wr (getN codE k s0).2 HR.out
        have hln := getN_len codE s0 k
        obtain ⟨⟨x, s2⟩, hq⟩ : ∃ q, codE.rd (getN codE k s0).2 = q := ⟨_, rfl⟩
        have hN : Hid (getN codE (k + 1) s0 = ((getN codE k s0).1 ++ [x], s2)) := Lib.hid (by simp only [getN]; rw [hq])
        have hq' : getE (getN codE k s0).2 = (x, s2) := hq
        rw [hq'] at CGk
        replace CGk := Lib.hid CGk
        have HT : Hid (∀ W, RowAt enK W g ((getN codE k s0).1 ++ List.replicate (m - k) zeroEn) → W.there g (k * 18) (enC x).size) := Lib.hid (fun W q => row_there q (by rw [List.length_append, List.length_replicate, hln]; omega))
        have HS : Hid (∀ W, RowAt enK W g ((getN codE k s0).1 ++ List.replicate (m - k) zeroEn) → RowAt enK (W.setCells g (k * 18) (enC x).toList) g ((getN codE (k + 1) s0).1 ++ List.replicate (m - (k + 1)) zeroEn)) := Lib.hid (fun W q => by
          have := row_set q (k := k) (by rw [List.length_append, List.length_replicate, hln]; omega) x
          rw [set_rep _ _ _ hln hlt] at this
          rw [hN.out, setCells_row]
          exact this)
        have h1 := all1E x
        clear hq hq' hln
        go_wp2_with (first
          | ((refine CGk.out.mono ?_); rintro e w4 ⟨rfl, r4, k4⟩; have RR4 := Lib.hid r4; have g4 := HG.out.kept k4 (show g ≠ B by omega); have ht4 := HT.out w4 g4; have hs4 := Lib.hid (HS.out w4 g4); have K4 := Lib.hid (K3.out.trans (k4.below K3.out.size (fun j hj => show j ≠ B by omega))); clear r4 k4)
          | ((show wpList _ _ _ [_] _ _); (refine wpList_store_mid rfl _ _ _ rfl g (k * 18) (enC x) rfl rfl ht4 (by kernel_rfl) h1 ?_)))
        go_roundw
        case rel =>
          have kS : ∀ P : Nat → Prop, (g < w4.heap.size → ¬ P g) → Kept w4 (w4.setCells g (k * 18) (enC x).toList) P := fun P hP => by rw [setCells_row]; exact kept_stC hP _ _ _ (Kept.refl _ _)
          exact ⟨k + 1, by go_num, by omega, Lib.hid (by rw [hN.out]; exact RR4.out.other (B2 := g) (kS (· ≠ g) (fun _ q => q rfl)) hBg), hs4, K4.out.trans ((kS (· ≠ g) (fun _ q => q rfl)).below K4.out.size (fun j hj => show j ≠ g by omega))⟩
        case measure => simp [intOf]; omega
      · obtain rfl : k = m := by omega
        have i2 : ¬ (k : Int) < (k : Int) := by omega
        obtain ⟨l, hl⟩ : ∃ l, (getN codE k s0).1 = l := ⟨_, rfl⟩
        rw [hl] at hF hLn HE
        rw [hl, Nat.sub_self, List.replicate_zero, List.append_nil] at HG
        have CW := writeE_any (some ⟨g, 0, none⟩) k l wr HG.out.rd hF (by omega)
        have RL := Lib.hid HG.out.rd
        have RB := Lib.hid ((H.out.below K3.out).more K3.out.size)
        obtain ⟨r, hr⟩ : ∃ r, writeL codE l = r := ⟨_, rfl⟩
        have HE2 := Lib.hid (HE.out r hr.symm)
        rw [hr, hLn] at CW
        have HLn := Lib.hid hLn
        clear hl hF hr HE HG H HR hLn
        cases r with
        | none =>
          have C := Lib.hid (bts_none CW)
          clear CW
          go_wp2_with (go_at_call 99; ((refine C.out.mono ?_); rintro e w6 ⟨rfl, k6⟩; have K6 := Lib.hid (bThen K3.out k6); clear k6))
          go_ret2
          exact ⟨_, 120, rfl, by rw [HE2.out]; exact .no, K6.out⟩
        | some b2 =>
          have C := Lib.hid (bts_some CW)
          clear CW
          have CE := Lib.hid (fun (W : World) (k6 : Below wr.heap.size wr W) A6 c6 (q : RdK u8K W W.heap.size A6 b2) => equal_any (A := A6) (A2 := A) (c := c6) (c2 := c) b2 b W q ((RB.out.below k6).more k6.size) rfl rfl)
          by_cases hbb : b2 = b
          · have hd : decide (b2 = b) = true := decide_eq_true hbb
            rw [hd] at CE
            have HB2 := Lib.hid hbb
            clear hd hbb
            go_wp2_with (first
              | (go_at_call 99; ((refine C.out.mono ?_); rintro e w6 ⟨A6, c6, rfl, q6, k6⟩; have C6 := Lib.hid (CE.out w6 k6 A6 c6 q6); have K6 := Lib.hid (bThen K3.out k6); have RL6 := Lib.hid ((RL.out.below k6).more k6.size); clear k6 q6))
              | (go_at_call 88; ((refine C6.out.mono ?_); rintro e w7 ⟨rfl, rfl⟩)))
            go_ret2
            have e9 : readL codE b = some l := by rw [HE2.out, if_pos (by rw [HB2.out])]
            have := LsE.yes (w := w6) (some ⟨g, 0, none⟩) k l RL6.out
            rw [HLn.out] at this
            exact ⟨_, 0, rfl, by rw [e9]; exact this, K6.out⟩
          · have hd : decide (b2 = b) = false := decide_eq_false hbb
            rw [hd] at CE
            have HB2 := Lib.hid hbb
            clear hd hbb
            go_wp2_with (first
              | (go_at_call 99; ((refine C.out.mono ?_); rintro e w6 ⟨A6, c6, rfl, q6, k6⟩; have C6 := Lib.hid (CE.out w6 k6 A6 c6 q6); have K6 := Lib.hid (bThen K3.out k6); clear k6 q6))
              | (go_at_call 88; ((refine C6.out.mono ?_); rintro e w7 ⟨rfl, rfl⟩)))
            go_ret2
            have e9 : readL codE b = none := by rw [HE2.out, if_neg (fun q => HB2.out (by injection q))]
            exact ⟨_, 120, rfl, by rw [e9]; exact .no, K6.out⟩
theorem rlawE_any (A : Option Addr) (c : Nat) (b : Bs) (w : World) (h : RdK u8K w w.heap.size A b) (hb : b.length ≤ 1000000) (hA : A = none → c = 0) :
    Calls Tryz.prog 12 #[.slice A b.length c] w fun e w' => ∃ v n, e = .returned (.tuple #[v, .int .i64 n]) ∧ LsE w' v n (readL codE b) ∧ Below w.heap.size w w' := by
  have C := Lib.hid (readE_any A c b w h hb hA)
  clear h
  obtain ⟨r, hr⟩ : ∃ r, readL codE b = r := ⟨_, rfl⟩
  rw [hr] at C ⊢
  clear hr
  go_enter Tryz.func12, Tryz.ntmps12
  go_wp2_with (go_at_call 49; ((refine C.out.mono ?_); rintro e w6 ⟨v, n, rfl, b6, k6⟩; have B6 := Lib.hid b6; have K6 := Lib.hid k6; clear b6 k6))
  go_ret2
  exact ⟨v, n, rfl, B6.out, K6.out⟩
end Go.Proofs.YtkgjgbenfpkekaaGreat.PX
