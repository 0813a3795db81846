/-
  WALK: a list read by its form: (form[string]).getList.
-/
import Derived.Test.YtjocbokfdfdkeaaGreatLZLForm2
import Derived.Test.YtjocbokfdfdkeaaGreatLZYByte
import Derived.Test.YtjocbokfdfdkeaaGreatLZPRest
import Derived.Test.YtjocbokfdfdkeaaGreatLZ6
namespace Go.Proofs.YtjocbokfdfdkeaaGreat.PX
open Go.RowKit HL
open IX (ptr El cellsK cellsK_at cellsK_len OwnK RdK Kept strK wpList_spreadK)
open YX (numB rdU rdB rdT rdS rdI addW intN natI rest told WAt WPt Wr RAt vS vU vI u8K Got)
open DX (Ch ch chCells chK)
set_option maxRecDepth 100000
set_option linter.unusedVariables false
set_option linter.unusedSimpArgs false

/-- A list as its form reads it: its number, and no more than 64. -/
def getF {α : Type} (C : Cod α) (s : Option Bs) : List α × Option Bs := if 64 < told (0 : Nat) rdU s then ([], rest rdU s) else getN C (told (0 : Nat) rdU s) (rest rdU s)
/-- What getList tells. -/
def Lg {α : Type} (K : El α) (w : World) (Br : Nat) (q : List α × Option Bs) (e : Ending) (w' : World) : Prop := ∃ v, e = .returned v ∧ OwnK K w' w.heap.size v q.1 ∧ RAt w' Br q.2 ∧ Kept w w' (· ≠ Br)
set_option maxHeartbeats 8000000 in
theorem getListS_any (Br : Nat) (s : Option Bs) (p : Nat) (w : World) (hr : RAt w Br s) :
    Calls Tryz.prog 90 #[fm p 89, ptr Br] w fun e w' => Lg strK w Br (getF codS s) e w' := by
  have hBr := hr.lt
  have hb := bAl (Below.refl w.heap.size w) (.cells #[fn p, fn 89] 134)
  have M0 := Lib.hid (AtC.new w #[fn p, fn 89] 134)
  have HR0 := Lib.hid (hr.below hb)
  have HB := Lib.hid hb
  have hsz0 : w.heap.size + 1 = (w.alloc (.cells #[fn p, fn 89] 134)).heap.size := by simp
  have CU := Lib.hid (fun (W : World) (q : RAt W Br s) => YX.unsigned_any2 Br s W q)
  have hent := enters_of Tryz.func89 (by kernel_rfl) rfl
  have hm18 : told (0 : Nat) rdU s < 18446744073709551616 := YX.told_lt _
  by_cases h64 : 64 < told (0 : Nat) rdU s
  · have HE : Hid (getF codS s = ([], rest rdU s)) := Lib.hid (by unfold getF; rw [if_pos h64])
    have i1 : (64 : Int) < ((told (0 : Nat) rdU s : Nat) : Int) := by omega
    rw [HE.out]
    clear hr hb HE h64
    generalize told (0 : Nat) rdU s = m at *
    generalize rest rdU s = s0 at *
    go_enter Tryz.func90, Tryz.ntmps90
    go_wp2_with (go_at_call 94; ((refine (CU.out _ HR0.out).mono ?_); rintro e w2 ⟨rfl, r2, k2⟩; have R2 := Lib.hid r2; have K2 := Lib.hid (Kept.trans (.of_below HB.out) k2); clear r2 k2))
    go_ret
    exact ⟨_, rfl, OwnK.nil_ _ _ _, R2.out, K2.out⟩
  · have HE : Hid (getF codS s = getN codS (told (0 : Nat) rdU s) (rest rdU s)) := Lib.hid (by unfold getF; rw [if_neg h64])
    have i1 : ¬ (64 : Int) < ((told (0 : Nat) rdU s : Nat) : Int) := by omega
    rw [HE.out]
    clear hr hb HE
    generalize told (0 : Nat) rdU s = m at *
    generalize rest rdU s = s0 at *
    have CG := Lib.hid (fun (W : World) (s : Option Bs) (q : RAt W Br s) => YX.text_any2 Br s W q)
    go_enter Tryz.func90, Tryz.ntmps90
    go_wp2_with (go_at_call 94; ((refine (CU.out _ HR0.out).mono ?_); rintro e w2 ⟨rfl, r2, k2⟩; have R2 := Lib.hid r2; have K2 := Lib.hid (Kept.trans (.of_below HB.out) k2); have M2 := Lib.hid (M0.out.kept k2 (show w.heap.size ≠ Br by omega)); have HS2 : Hid (w.heap.size + 1 ≤ w2.heap.size) := Lib.hid (by rw [hsz0]; exact k2.size); clear r2 k2))
    clear hsz0 M0 HR0 CU
    go_loopw [6, 12] (fun v i wr => ∃ k : Nat, i = .int .u64 k ∧ k ≤ m ∧ Hid (RAt wr Br (getN codS k s0).2) ∧ Hid (OwnK strK wr (w.heap.size + 1) v (getN codS k s0).1) ∧ Hid (AtC wr w.heap.size #[fn p, fn 89]) ∧ Hid (w.heap.size + 1 ≤ wr.heap.size) ∧ Kept w wr (· ≠ Br)) (fun _ i _ => m - (intOf i).toNat)
    case atStart => exact ⟨0, rfl, by omega, R2, Lib.hid (OwnK.nil_ _ _ _), M2, HS2, K2.out⟩
    case round =>
      obtain ⟨k, rfl, hk, HR, HO, HM, HS, k3⟩ := hrel
      have K3 := Lib.hid k3
      clear R2 K2 M2 HS2
      by_cases hlt : k < m
      · have i2 : (k : Int) < (m : Int) := by omega
        have CGk := CG.out wr (getN codS k s0).2 HR.out
        have hln := Lib.hid (getN_len codS s0 k)
        obtain ⟨⟨x, s2⟩, hq⟩ : ∃ q, codS.rd (getN codS k s0).2 = q := ⟨_, rfl⟩
        have hN : Hid (getN codS (k + 1) s0 = ((getN codS k s0).1 ++ [x], s2)) := Lib.hid (by simp only [getN]; rw [hq])
        have CGx : Hid (Calls Tryz.prog 89 #[ptr Br] wr fun e w' => e = .returned (vS x) ∧ RAt w' Br s2 ∧ Kept wr w' (· ≠ Br)) := Lib.hid (CGk.mono fun e w' q => ⟨q.1.trans (congrArg (fun z => Ending.returned (vS z.1)) hq), Eq.mp (congrArg (fun z => RAt w' Br z.2) hq) q.2.1, q.2.2⟩)
        clear CGk hq
        obtain ⟨L, hL⟩ : ∃ L, (getN codS k s0).1 = L := ⟨_, rfl⟩
        rw [hL] at HO hN hln
        clear hL
        have mf1 := HM.out.c 1
        have mfl := HM.out.lt
        go_wp2_with (first
          | (at_builtin; refine wpList_spreadK strK rfl (.tmp 14) (.tmp 19) rfl (w.heap.size + 1) _ L rfl (O4.out.below (bAl (Below.refl _ _) _)) (w4.heap.size + 1) (some ⟨w4.heap.size, 0, none⟩) 1 1 [x] rfl rfl (RdK.lit (K := strK) w4 x #[vS x] rfl 9) ?c1 ?c2 ?_)
          | ((refine CGx.out.mono ?_); rintro e w4 ⟨rfl, r4, k4⟩; have R4 := Lib.hid r4; have M4 := Lib.hid (HM.out.kept k4 (show w.heap.size ≠ Br by omega)); have K4 := Lib.hid (K3.out.trans k4); have O4 := Lib.hid (HO.out.kept k4 (fun j e => by have h1 := (HO.out.lt j e).1; show j ≠ Br; omega)); have HS4 := Lib.hid (Nat.le_trans HS.out k4.size); clear r4 k4))
        case c1 => have := hln.out; simp only [List.length_singleton]; omega
        case c2 => have := HS4.out; simp; omega
        intro v5 w5 o5 g5 f5
        have HS4' := HS4.out
        have b45 : Below (w.heap.size + 1) w4 w5 := Below.grown ((Below.refl (w.heap.size + 1) w4).alloc HS4' _) g5 (by simp; omega) (fun a ha => (O4.out.lt a ha).1)
        have k45 : Kept w4 w5 (· < w.heap.size + 1) := ⟨b45.os, b45.tape, b45.output, b45.size, fun j _ hj => b45.block j hj⟩
        have R5 := Lib.hid (RAt.kept (P := (· < w.heap.size + 1)) R4.out k45 (fun j hj => show j < w.heap.size + 1 by omega))
        have M5 := Lib.hid (M4.out.kept k45 (show w.heap.size < w.heap.size + 1 by omega))
        have K5 : Hid (Kept w w5 (· ≠ Br)) := Lib.hid ⟨b45.os.trans K4.out.os, b45.tape.trans K4.out.tape, b45.output.trans K4.out.output, Nat.le_trans K4.out.size b45.size, fun j hj hp => (b45.block j (by omega)).trans (K4.out.block j hj hp)⟩
        have O5 := Lib.hid o5
        have HS5 := Lib.hid (Nat.le_trans HS4' b45.size)
        clear o5 g5 b45 f5 k45
        go_wp2
        go_roundw
        case rel => exact ⟨k + 1, by go_num, by omega, Lib.hid (by rw [hN.out]; exact R5.out), Lib.hid (by rw [hN.out]; exact O5.out), M5, HS5, K5.out⟩
        case measure => (simp [intOf]; try omega)
      · obtain rfl : k = m := by omega
        have i2 : ¬ (k : Int) < (k : Int) := by omega
        have O9 := Lib.hid (HO.out.base (show w.heap.size ≤ w.heap.size + 1 by omega))
        go_wp2
        go_ret
        exact ⟨_, rfl, O9.out, HR.out, K3.out⟩
end Go.Proofs.YtjocbokfdfdkeaaGreat.PX
/-
  WALK: a list read by its form: (form[bedside/api.Change]).getList.
-/
namespace Go.Proofs.YtjocbokfdfdkeaaGreat.PX
open Go.RowKit HL
open IX (ptr El cellsK cellsK_at cellsK_len OwnK RdK Kept strK wpList_spreadK)
open YX (numB rdU rdB rdT rdS rdI addW intN natI rest told WAt WPt Wr RAt vS vU vI u8K Got)
open DX (Ch ch chCells chK)
set_option maxRecDepth 100000
set_option linter.unusedVariables false
set_option linter.unusedSimpArgs false

set_option maxHeartbeats 8000000 in
theorem getListC_any (Br : Nat) (s : Option Bs) (p : Nat) (w : World) (hr : RAt w Br s) :
    Calls Tryz.prog 103 #[fm p 91, ptr Br] w fun e w' => Lg chK w Br (getF codC s) e w' := by
  have hBr := hr.lt
  have hb := bAl (Below.refl w.heap.size w) (.cells #[fn p, fn 91] 152)
  have M0 := Lib.hid (AtC.new w #[fn p, fn 91] 152)
  have HR0 := Lib.hid (hr.below hb)
  have HB := Lib.hid hb
  have hsz0 : w.heap.size + 1 = (w.alloc (.cells #[fn p, fn 91] 152)).heap.size := by simp
  have CU := Lib.hid (fun (W : World) (q : RAt W Br s) => YX.unsigned_any2 Br s W q)
  have hent := enters_of Tryz.func91 (by kernel_rfl) rfl
  have hm18 : told (0 : Nat) rdU s < 18446744073709551616 := YX.told_lt _
  by_cases h64 : 64 < told (0 : Nat) rdU s
  · have HE : Hid (getF codC s = ([], rest rdU s)) := Lib.hid (by unfold getF; rw [if_pos h64])
    have i1 : (64 : Int) < ((told (0 : Nat) rdU s : Nat) : Int) := by omega
    rw [HE.out]
    clear hr hb HE h64
    generalize told (0 : Nat) rdU s = m at *
    generalize rest rdU s = s0 at *
    go_enter Tryz.func103, Tryz.ntmps103
    go_wp2_with (go_at_call 94; ((refine (CU.out _ HR0.out).mono ?_); rintro e w2 ⟨rfl, r2, k2⟩; have R2 := Lib.hid r2; have K2 := Lib.hid (Kept.trans (.of_below HB.out) k2); clear r2 k2))
    go_ret
    exact ⟨_, rfl, OwnK.nil_ _ _ _, R2.out, K2.out⟩
  · have HE : Hid (getF codC s = getN codC (told (0 : Nat) rdU s) (rest rdU s)) := Lib.hid (by unfold getF; rw [if_neg h64])
    have i1 : ¬ (64 : Int) < ((told (0 : Nat) rdU s : Nat) : Int) := by omega
    rw [HE.out]
    clear hr hb HE
    generalize told (0 : Nat) rdU s = m at *
    generalize rest rdU s = s0 at *
    have CG := Lib.hid (fun (W : World) (s : Option Bs) (q : RAt W Br s) => getChange_any Br s W q)
    go_enter Tryz.func103, Tryz.ntmps103
    go_wp2_with (go_at_call 94; ((refine (CU.out _ HR0.out).mono ?_); rintro e w2 ⟨rfl, r2, k2⟩; have R2 := Lib.hid r2; have K2 := Lib.hid (Kept.trans (.of_below HB.out) k2); have M2 := Lib.hid (M0.out.kept k2 (show w.heap.size ≠ Br by omega)); have HS2 : Hid (w.heap.size + 1 ≤ w2.heap.size) := Lib.hid (by rw [hsz0]; exact k2.size); clear r2 k2))
    clear hsz0 M0 HR0 CU
    go_loopw [6, 12] (fun v i wr => ∃ k : Nat, i = .int .u64 k ∧ k ≤ m ∧ Hid (RAt wr Br (getN codC k s0).2) ∧ Hid (OwnK chK wr (w.heap.size + 1) v (getN codC k s0).1) ∧ Hid (AtC wr w.heap.size #[fn p, fn 91]) ∧ Hid (w.heap.size + 1 ≤ wr.heap.size) ∧ Kept w wr (· ≠ Br)) (fun _ i _ => m - (intOf i).toNat)
    case atStart => exact ⟨0, rfl, by omega, R2, Lib.hid (OwnK.nil_ _ _ _), M2, HS2, K2.out⟩
    case round =>
      obtain ⟨k, rfl, hk, HR, HO, HM, HS, k3⟩ := hrel
      have K3 := Lib.hid k3
      clear R2 K2 M2 HS2
      by_cases hlt : k < m
      · have i2 : (k : Int) < (m : Int) := by omega
        have CGk := CG.out wr (getN codC k s0).2 HR.out
        have hln := Lib.hid (getN_len codC s0 k)
        obtain ⟨⟨x, s2⟩, hq⟩ : ∃ q, codC.rd (getN codC k s0).2 = q := ⟨_, rfl⟩
        have hN : Hid (getN codC (k + 1) s0 = ((getN codC k s0).1 ++ [x], s2)) := Lib.hid (by simp only [getN]; rw [hq])
        have CGx : Hid (Calls Tryz.prog 91 #[ptr Br] wr fun e w' => e = .returned (ch x) ∧ RAt w' Br s2 ∧ Kept wr w' (· ≠ Br)) := Lib.hid (CGk.mono fun e w' q => ⟨q.1.trans (congrArg (fun z => Ending.returned (ch z.1)) hq), Eq.mp (congrArg (fun z => RAt w' Br z.2) hq) q.2.1, q.2.2⟩)
        clear CGk hq
        obtain ⟨L, hL⟩ : ∃ L, (getN codC k s0).1 = L := ⟨_, rfl⟩
        rw [hL] at HO hN hln
        clear hL
        have mf1 := HM.out.c 1
        have mfl := HM.out.lt
        go_wp2_with (first
          | (at_builtin; refine wpList_spreadK chK rfl (.tmp 14) (.tmp 19) rfl (w.heap.size + 1) _ L rfl (O4.out.below (bAl (Below.refl _ _) _)) (w4.heap.size + 1) (some ⟨w4.heap.size, 0, none⟩) 1 1 [x] rfl rfl (RdK.lit (K := chK) w4 x (chCells x) rfl 26) ?c1 ?c2 ?_)
          | ((refine CGx.out.mono ?_); rintro e w4 ⟨rfl, r4, k4⟩; have R4 := Lib.hid r4; have M4 := Lib.hid (HM.out.kept k4 (show w.heap.size ≠ Br by omega)); have K4 := Lib.hid (K3.out.trans k4); have O4 := Lib.hid (HO.out.kept k4 (fun j e => by have h1 := (HO.out.lt j e).1; show j ≠ Br; omega)); have HS4 := Lib.hid (Nat.le_trans HS.out k4.size); clear r4 k4))
        case c1 => have := hln.out; simp only [List.length_singleton]; omega
        case c2 => have := HS4.out; simp; omega
        intro v5 w5 o5 g5 f5
        have HS4' := HS4.out
        have b45 : Below (w.heap.size + 1) w4 w5 := Below.grown ((Below.refl (w.heap.size + 1) w4).alloc HS4' _) g5 (by simp; omega) (fun a ha => (O4.out.lt a ha).1)
        have k45 : Kept w4 w5 (· < w.heap.size + 1) := ⟨b45.os, b45.tape, b45.output, b45.size, fun j _ hj => b45.block j hj⟩
        have R5 := Lib.hid (RAt.kept (P := (· < w.heap.size + 1)) R4.out k45 (fun j hj => show j < w.heap.size + 1 by omega))
        have M5 := Lib.hid (M4.out.kept k45 (show w.heap.size < w.heap.size + 1 by omega))
        have K5 : Hid (Kept w w5 (· ≠ Br)) := Lib.hid ⟨b45.os.trans K4.out.os, b45.tape.trans K4.out.tape, b45.output.trans K4.out.output, Nat.le_trans K4.out.size b45.size, fun j hj hp => (b45.block j (by omega)).trans (K4.out.block j hj hp)⟩
        have O5 := Lib.hid o5
        have HS5 := Lib.hid (Nat.le_trans HS4' b45.size)
        clear o5 g5 b45 f5 k45
        go_wp2
        go_roundw
        case rel => exact ⟨k + 1, by go_num, by omega, Lib.hid (by rw [hN.out]; exact R5.out), Lib.hid (by rw [hN.out]; exact O5.out), M5, HS5, K5.out⟩
        case measure => (simp [intOf]; try omega)
      · obtain rfl : k = m := by omega
        have i2 : ¬ (k : Int) < (k : Int) := by omega
        have O9 := Lib.hid (HO.out.base (show w.heap.size ≤ w.heap.size + 1 by omega))
        go_wp2
        go_ret
        exact ⟨_, rfl, O9.out, HR.out, K3.out⟩
end Go.Proofs.YtjocbokfdfdkeaaGreat.PX
/-
  WALK: a list read by its form: (form[bedside/api.Entry]).getList.
-/
namespace Go.Proofs.YtjocbokfdfdkeaaGreat.PX
open Go.RowKit HL
open IX (ptr El cellsK cellsK_at cellsK_len OwnK RdK Kept strK wpList_spreadK)
open YX (numB rdU rdB rdT rdS rdI addW intN natI rest told WAt WPt Wr RAt vS vU vI u8K Got)
open DX (Ch ch chCells chK)
set_option maxRecDepth 100000
set_option linter.unusedVariables false
set_option linter.unusedSimpArgs false

set_option maxHeartbeats 8000000 in
theorem getListE_any (Br : Nat) (s : Option Bs) (p : Nat) (w : World) (hr : RAt w Br s) :
    Calls Tryz.prog 100 #[fm p 122, ptr Br] w fun e w' => Lg enK w Br (getF codE s) e w' := by
  have hBr := hr.lt
  have hb := bAl (Below.refl w.heap.size w) (.cells #[fn p, fn 122] 147)
  have M0 := Lib.hid (AtC.new w #[fn p, fn 122] 147)
  have HR0 := Lib.hid (hr.below hb)
  have HB := Lib.hid hb
  have hsz0 : w.heap.size + 1 = (w.alloc (.cells #[fn p, fn 122] 147)).heap.size := by simp
  have CU := Lib.hid (fun (W : World) (q : RAt W Br s) => YX.unsigned_any2 Br s W q)
  have hent := enters_of Tryz.func122 (by kernel_rfl) rfl
  have hm18 : told (0 : Nat) rdU s < 18446744073709551616 := YX.told_lt _
  by_cases h64 : 64 < told (0 : Nat) rdU s
  · have HE : Hid (getF codE s = ([], rest rdU s)) := Lib.hid (by unfold getF; rw [if_pos h64])
    have i1 : (64 : Int) < ((told (0 : Nat) rdU s : Nat) : Int) := by omega
    rw [HE.out]
    clear hr hb HE h64
    generalize told (0 : Nat) rdU s = m at *
    generalize rest rdU s = s0 at *
    go_enter Tryz.func100, Tryz.ntmps100
    go_wp2_with (go_at_call 94; ((refine (CU.out _ HR0.out).mono ?_); rintro e w2 ⟨rfl, r2, k2⟩; have R2 := Lib.hid r2; have K2 := Lib.hid (Kept.trans (.of_below HB.out) k2); clear r2 k2))
    go_ret
    exact ⟨_, rfl, OwnK.nil_ _ _ _, R2.out, K2.out⟩
  · have HE : Hid (getF codE s = getN codE (told (0 : Nat) rdU s) (rest rdU s)) := Lib.hid (by unfold getF; rw [if_neg h64])
    have i1 : ¬ (64 : Int) < ((told (0 : Nat) rdU s : Nat) : Int) := by omega
    rw [HE.out]
    clear hr hb HE
    generalize told (0 : Nat) rdU s = m at *
    generalize rest rdU s = s0 at *
    have CG := Lib.hid (fun (W : World) (s : Option Bs) (q : RAt W Br s) => getEntry_any Br s W q)
    go_enter Tryz.func100, Tryz.ntmps100
    go_wp2_with (go_at_call 94; ((refine (CU.out _ HR0.out).mono ?_); rintro e w2 ⟨rfl, r2, k2⟩; have R2 := Lib.hid r2; have K2 := Lib.hid (Kept.trans (.of_below HB.out) k2); have M2 := Lib.hid (M0.out.kept k2 (show w.heap.size ≠ Br by omega)); have HS2 : Hid (w.heap.size + 1 ≤ w2.heap.size) := Lib.hid (by rw [hsz0]; exact k2.size); clear r2 k2))
    clear hsz0 M0 HR0 CU
    go_loopw [6, 12] (fun v i wr => ∃ k : Nat, i = .int .u64 k ∧ k ≤ m ∧ Hid (RAt wr Br (getN codE k s0).2) ∧ Hid (OwnK enK wr (w.heap.size + 1) v (getN codE k s0).1) ∧ Hid (AtC wr w.heap.size #[fn p, fn 122]) ∧ Hid (w.heap.size + 1 ≤ wr.heap.size) ∧ Kept w wr (· ≠ Br)) (fun _ i _ => m - (intOf i).toNat)
    case atStart => exact ⟨0, rfl, by omega, R2, Lib.hid (OwnK.nil_ _ _ _), M2, HS2, K2.out⟩
    case round =>
      obtain ⟨k, rfl, hk, HR, HO, HM, HS, k3⟩ := hrel
      have K3 := Lib.hid k3
      clear R2 K2 M2 HS2
      by_cases hlt : k < m
      · have i2 : (k : Int) < (m : Int) := by omega
        have CGk := CG.out wr (getN codE k s0).2 HR.out
        have hln := Lib.hid (getN_len codE s0 k)
        obtain ⟨⟨x, s2⟩, hq⟩ : ∃ q, codE.rd (getN codE k s0).2 = q := ⟨_, rfl⟩
        have hN : Hid (getN codE (k + 1) s0 = ((getN codE k s0).1 ++ [x], s2)) := Lib.hid (by simp only [getN]; rw [hq])
        have CGx : Hid (Calls Tryz.prog 122 #[ptr Br] wr fun e w' => e = .returned (en x) ∧ RAt w' Br s2 ∧ Kept wr w' (· ≠ Br)) := Lib.hid (CGk.mono fun e w' q => ⟨q.1.trans (congrArg (fun z => Ending.returned (en z.1)) hq), Eq.mp (congrArg (fun z => RAt w' Br z.2) hq) q.2.1, q.2.2⟩)
        clear CGk hq
        obtain ⟨L, hL⟩ : ∃ L, (getN codE k s0).1 = L := ⟨_, rfl⟩
        rw [hL] at HO hN hln
        clear hL
        have mf1 := HM.out.c 1
        have mfl := HM.out.lt
        go_wp2_with (first
          | (at_builtin; refine wpList_spreadK enK rfl (.tmp 14) (.tmp 19) rfl (w.heap.size + 1) _ L rfl (O4.out.below (bAl (Below.refl _ _) _)) (w4.heap.size + 1) (some ⟨w4.heap.size, 0, none⟩) 1 1 [x] rfl rfl (RdK.lit (K := enK) w4 x (enC x) rfl 90) ?c1 ?c2 ?_)
          | ((refine CGx.out.mono ?_); rintro e w4 ⟨rfl, r4, k4⟩; have R4 := Lib.hid r4; have M4 := Lib.hid (HM.out.kept k4 (show w.heap.size ≠ Br by omega)); have K4 := Lib.hid (K3.out.trans k4); have O4 := Lib.hid (HO.out.kept k4 (fun j e => by have h1 := (HO.out.lt j e).1; show j ≠ Br; omega)); have HS4 := Lib.hid (Nat.le_trans HS.out k4.size); clear r4 k4))
        case c1 => have := hln.out; simp only [List.length_singleton]; omega
        case c2 => have := HS4.out; simp; omega
        intro v5 w5 o5 g5 f5
        have HS4' := HS4.out
        have b45 : Below (w.heap.size + 1) w4 w5 := Below.grown ((Below.refl (w.heap.size + 1) w4).alloc HS4' _) g5 (by simp; omega) (fun a ha => (O4.out.lt a ha).1)
        have k45 : Kept w4 w5 (· < w.heap.size + 1) := ⟨b45.os, b45.tape, b45.output, b45.size, fun j _ hj => b45.block j hj⟩
        have R5 := Lib.hid (RAt.kept (P := (· < w.heap.size + 1)) R4.out k45 (fun j hj => show j < w.heap.size + 1 by omega))
        have M5 := Lib.hid (M4.out.kept k45 (show w.heap.size < w.heap.size + 1 by omega))
        have K5 : Hid (Kept w w5 (· ≠ Br)) := Lib.hid ⟨b45.os.trans K4.out.os, b45.tape.trans K4.out.tape, b45.output.trans K4.out.output, Nat.le_trans K4.out.size b45.size, fun j hj hp => (b45.block j (by omega)).trans (K4.out.block j hj hp)⟩
        have O5 := Lib.hid o5
        have HS5 := Lib.hid (Nat.le_trans HS4' b45.size)
        clear o5 g5 b45 f5 k45
        go_wp2
        go_roundw
        case rel => exact ⟨k + 1, by go_num, by omega, Lib.hid (by rw [hN.out]; exact R5.out), Lib.hid (by rw [hN.out]; exact O5.out), M5, HS5, K5.out⟩
        case measure => (simp [intOf]; try omega)
      · obtain rfl : k = m := by omega
        have i2 : ¬ (k : Int) < (k : Int) := by omega
        have O9 := Lib.hid (HO.out.base (show w.heap.size ≤ w.heap.size + 1 by omega))
        go_wp2
        go_ret
        exact ⟨_, rfl, O9.out, HR.out, K3.out⟩
end Go.Proofs.YtjocbokfdfdkeaaGreat.PX
