/-
  WALKS: a list written: write[api.Object].
-/
import Derived.Test.YtkgjgbenfpkekaaGreatPRest
import Derived.Test.YtkgjgbenfpkekaaGreatYBytes
import Derived.Test.YtkgjgbenfpkekaaGreatPR1
import Derived.Test.YtkgjgbenfpkekaaGreatPEn
import Derived.Deep.MidRow
import Derived.Test.YtkgjgbenfpkekaaGreatPGetEn
namespace Go.Proofs.YtkgjgbenfpkekaaGreat.PX
open Go.RowKit HL
open IX (ptr El cellsK cellsK_at cellsK_len OwnK RdK Kept)
open YX (numB rdU rdB rdT rdS rdI addW intN natI rest told WAt WPt Wr RAt vS vU vI u8K Got)
open WX (obK obs_at)
set_option maxRecDepth 100000
set_option linter.unusedVariables false
set_option linter.unusedSimpArgs false

set_option maxHeartbeats 8000000 in
theorem writeO_any (A : Option Addr) (c : Nat) (l : List Ob) (w : World) (h : RdK obK w w.heap.size A l) (hF : ∀ x ∈ l, Fine x) (hn : l.length ≤ 1000) :
    Calls Tryz.prog 87 #[.slice A l.length c, fn 39] w fun e w' => Bts w (writeL codO l) e w' := by
  by_cases hl : 64 < l.length
  · have i1 : (64 : Int) < (l.length : Int) := by omega
    have e : writeL codO l = none := by unfold writeL; rw [if_pos hl]
    rw [e]
    clear h hF
    go_enter Tryz.func87, Tryz.ntmps87
    go_wp2
    go_ret2
    exact ⟨_, 3, rfl, .no', Below.refl _ _⟩
  · have i1 : ¬ (64 : Int) < (l.length : Int) := by omega
    have hz := YX.zero_wr
    have hb := bAl (Below.refl w.heap.size w) (.cells YX.zW 165)
    have HW0 : Hid (WAt (w.alloc (.cells YX.zW 165)) w.heap.size (some [])) := Lib.hid ⟨[], YX.p0, 0, YX.p0_len, by omega, by simp, by simp, YX.AtH.new _ _ _⟩
    have HB := Lib.hid hb
    have H := Lib.hid h
    have hu : IntKind.u64.wrap (l.length : Int) = (l.length : Int) := YX.wU (by omega)
    have CU := Lib.hid (fun (W : World) (q : WAt W w.heap.size (some [])) => (YX.wUint_any (ptr w.heap.size) (some []) l.length _ rfl (by omega) W (wpt q)).mono (fun e w' r => wrt r))
    have CP := Lib.hid (fun (W : World) (s : Option Bs) (x : Ob) (hx : x ∈ l) (q : WAt W w.heap.size s) => putObject_any w.heap.size s x W (hF x hx) q)
    have HE : Hid (writeL codO l = l.foldl codO.W (addW (some []) (numB l.length))) := Lib.hid (by unfold writeL; rw [if_neg hl])
    have hent := enters_of Tryz.func39 (by kernel_rfl) rfl
    obtain ⟨s0, hs0⟩ : ∃ s0, s0 = addW (some []) (numB l.length) := ⟨_, rfl⟩
    rw [← hs0] at CU HE
    clear h hF hb hs0
    go_enter Tryz.func87, Tryz.ntmps87
    go_wp2_with (go_at_call 94; ((refine (CU.out _ HW0.out).mono ?_); rintro e w2 ⟨rfl, r2, k2⟩; have HW2 := Lib.hid r2; have K2 := Lib.hid (Kept.trans (.of_below HB.out) k2 |>.below (Nat.le_refl _) (fun k hk => show k ≠ w.heap.size by omega)); clear r2 k2))
    go_loopw [18] (fun i wr => ∃ k : Nat, i = .int .i64 k ∧ k ≤ l.length ∧ Hid (WAt wr w.heap.size ((l.take k).foldl codO.W s0)) ∧ Below w.heap.size w wr) (fun i _ => l.length - (intOf i).toNat)
    case atStart => exact ⟨0, rfl, by omega, HW2, K2.out⟩
    case round =>
      obtain ⟨k, rfl, hk, HWr, k3⟩ := hrel
      have K3 := Lib.hid k3
      by_cases hlt : k < l.length
      · have i2 : (k : Int) < (l.length : Int) := by omega
        obtain ⟨b, off, rfl, hbk, hcc⟩ := WX.obs_at (H.out.below k3) (by omega)
        obtain ⟨p0, p1, p2, p3, p4, p5, p6, p7, p8, p9, p10, p11, p12, p13⟩ := hcc k _ (List.getElem?_eq_getElem hlt)
        have hx : l[k] ∈ l := List.getElem_mem hlt
        have HN : Hid ((l.take (k + 1)).foldl codO.W s0 = codO.W ((l.take k).foldl codO.W s0) l[k]) := Lib.hid (by rw [List.take_succ_eq_append_getElem hlt, List.foldl_append]; rfl)
        generalize (l.take k).foldl codO.W s0 = sk at *
        generalize l[k] = x at *
        have bn := bAl (Below.refl wr.heap.size wr) (.cells (obCells x) 45)
        have CPk := Lib.hid (CP.out _ sk x hx (HWr.out.below bn))
        have BN := Lib.hid bn
        have hsz := k3.size
        clear hcc bn
        go_wp2_with ((refine CPk.out.mono ?_); rintro e w4 ⟨rfl, r4, k4⟩; have HW4 := Lib.hid r4; have K4 := Lib.hid (bThen K3.out BN.out); have K5 := Lib.hid ((Kept.trans (P := (· ≠ w.heap.size)) (.of_below K4.out) k4).below (Nat.le_refl _) (fun k hk => show k ≠ w.heap.size by omega)); clear r4 k4)
        go_roundw
        case rel => exact ⟨k + 1, by go_num, by omega, Lib.hid (by rw [HN.out]; exact HW4.out), K5.out⟩
        case measure => simp [intOf]; omega
      · obtain rfl : k = l.length := by omega
        have i2 : ¬ (l.length : Int) < (l.length : Int) := by omega
        rw [List.take_length, ← HE.out] at HWr
        have CY := Lib.hid (bytes_any w.heap.size _ wr HWr.out)
        clear HE
        obtain ⟨r, hr⟩ : ∃ r, writeL codO l = r := ⟨_, rfl⟩
        rw [hr] at CY HWr
        have HRr := Lib.hid hr
        clear hr
        go_wp2_with (go_at_call 106; ((refine CY.out.mono ?_); rintro e w6 ⟨v, n, rfl, b6, k6⟩; have B6 := Lib.hid b6; have K6 := Lib.hid (bThen K3.out k6); clear b6 k6))
        go_ret2
        exact ⟨v, n, rfl, by rw [HRr.out]; exact B6.out, K6.out⟩
end Go.Proofs.YtkgjgbenfpkekaaGreat.PX
/-
  WALKS: a list written: write[api.Change].
-/
namespace Go.Proofs.YtkgjgbenfpkekaaGreat.PX
open Go.RowKit HL
open IX (ptr El cellsK cellsK_at cellsK_len OwnK RdK Kept)
open YX (numB rdU rdB rdT rdS rdI addW intN natI rest told WAt WPt Wr RAt vS vU vI u8K Got)
open DX (Ch ch chCells chK)
set_option maxRecDepth 100000
set_option linter.unusedVariables false
set_option linter.unusedSimpArgs false

set_option maxHeartbeats 8000000 in
theorem writeC_any (A : Option Addr) (c : Nat) (l : List Ch) (w : World) (h : RdK chK w w.heap.size A l) (hF : ∀ x ∈ l, FineC x) (hn : l.length ≤ 1000) :
    Calls Tryz.prog 98 #[.slice A l.length c, fn 46] w fun e w' => Bts w (writeL codC l) e w' := by
  by_cases hl : 64 < l.length
  · have i1 : (64 : Int) < (l.length : Int) := by omega
    have e : writeL codC l = none := by unfold writeL; rw [if_pos hl]
    rw [e]
    clear h hF
    go_enter Tryz.func98, Tryz.ntmps98
    go_wp2
    go_ret2
    exact ⟨_, 3, rfl, .no', Below.refl _ _⟩
  · have i1 : ¬ (64 : Int) < (l.length : Int) := by omega
    have hz := YX.zero_wr
    have hb := bAl (Below.refl w.heap.size w) (.cells YX.zW 165)
    have HW0 : Hid (WAt (w.alloc (.cells YX.zW 165)) w.heap.size (some [])) := Lib.hid ⟨[], YX.p0, 0, YX.p0_len, by omega, by simp, by simp, YX.AtH.new _ _ _⟩
    have HB := Lib.hid hb
    have H := Lib.hid h
    have hu : IntKind.u64.wrap (l.length : Int) = (l.length : Int) := YX.wU (by omega)
    have CU := Lib.hid (fun (W : World) (q : WAt W w.heap.size (some [])) => (YX.wUint_any (ptr w.heap.size) (some []) l.length _ rfl (by omega) W (wpt q)).mono (fun e w' r => wrt r))
    have CP := Lib.hid (fun (W : World) (s : Option Bs) (x : Ch) (hx : x ∈ l) (q : WAt W w.heap.size s) => putChange_any w.heap.size s x W (hF x hx) q)
    have HE : Hid (writeL codC l = l.foldl codC.W (addW (some []) (numB l.length))) := Lib.hid (by unfold writeL; rw [if_neg hl])
    have hent := enters_of Tryz.func46 (by kernel_rfl) rfl
    obtain ⟨s0, hs0⟩ : ∃ s0, s0 = addW (some []) (numB l.length) := ⟨_, rfl⟩
    rw [← hs0] at CU HE
    clear h hF hb hs0
    go_enter Tryz.func98, Tryz.ntmps98
    go_wp2_with (go_at_call 94; ((refine (CU.out _ HW0.out).mono ?_); rintro e w2 ⟨rfl, r2, k2⟩; have HW2 := Lib.hid r2; have K2 := Lib.hid (Kept.trans (.of_below HB.out) k2 |>.below (Nat.le_refl _) (fun k hk => show k ≠ w.heap.size by omega)); clear r2 k2))
    go_loopw [18] (fun i wr => ∃ k : Nat, i = .int .i64 k ∧ k ≤ l.length ∧ Hid (WAt wr w.heap.size ((l.take k).foldl codC.W s0)) ∧ Below w.heap.size w wr) (fun i _ => l.length - (intOf i).toNat)
    case atStart => exact ⟨0, rfl, by omega, HW2, K2.out⟩
    case round =>
      obtain ⟨k, rfl, hk, HWr, k3⟩ := hrel
      have K3 := Lib.hid k3
      by_cases hlt : k < l.length
      · have i2 : (k : Int) < (l.length : Int) := by omega
        obtain ⟨b, off, rfl, hbk, hcc⟩ := DX.chs_at (H.out.below k3) (by omega)
        obtain ⟨p0, p1, p2, p3, p4, p5, p6, p7, p8, p9, p10, p11, p12, p13, p14⟩ := hcc k _ (List.getElem?_eq_getElem hlt)
        have hx : l[k] ∈ l := List.getElem_mem hlt
        have HN : Hid ((l.take (k + 1)).foldl codC.W s0 = codC.W ((l.take k).foldl codC.W s0) l[k]) := Lib.hid (by rw [List.take_succ_eq_append_getElem hlt, List.foldl_append]; rfl)
        generalize (l.take k).foldl codC.W s0 = sk at *
        generalize l[k] = x at *
        have bn := bAl (Below.refl wr.heap.size wr) (.cells (chCells x) 47)
        have CPk := Lib.hid (CP.out _ sk x hx (HWr.out.below bn))
        have BN := Lib.hid bn
        have hsz := k3.size
        clear hcc bn
        go_wp2_with ((refine CPk.out.mono ?_); rintro e w4 ⟨rfl, r4, k4⟩; have HW4 := Lib.hid r4; have K4 := Lib.hid (bThen K3.out BN.out); have K5 := Lib.hid ((Kept.trans (P := (· ≠ w.heap.size)) (.of_below K4.out) k4).below (Nat.le_refl _) (fun k hk => show k ≠ w.heap.size by omega)); clear r4 k4)
        go_roundw
        case rel => exact ⟨k + 1, by go_num, by omega, Lib.hid (by rw [HN.out]; exact HW4.out), K5.out⟩
        case measure => simp [intOf]; omega
      · obtain rfl : k = l.length := by omega
        have i2 : ¬ (l.length : Int) < (l.length : Int) := by omega
        rw [List.take_length, ← HE.out] at HWr
        have CY := Lib.hid (bytes_any w.heap.size _ wr HWr.out)
        clear HE
        obtain ⟨r, hr⟩ : ∃ r, writeL codC l = r := ⟨_, rfl⟩
        rw [hr] at CY HWr
        have HRr := Lib.hid hr
        clear hr
        go_wp2_with (go_at_call 106; ((refine CY.out.mono ?_); rintro e w6 ⟨v, n, rfl, b6, k6⟩; have B6 := Lib.hid b6; have K6 := Lib.hid (bThen K3.out k6); clear b6 k6))
        go_ret2
        exact ⟨v, n, rfl, by rw [HRr.out]; exact B6.out, K6.out⟩
end Go.Proofs.YtkgjgbenfpkekaaGreat.PX
/-
  WALKS: a list written: write[api.Entry].
-/
namespace Go.Proofs.YtkgjgbenfpkekaaGreat.PX
open Go.RowKit HL
open IX (ptr El cellsK cellsK_at cellsK_len OwnK RdK Kept)
open YX (numB rdU rdB rdT rdS rdI addW intN natI rest told WAt WPt Wr RAt vS vU vI u8K Got)

set_option maxRecDepth 100000
set_option linter.unusedVariables false
set_option linter.unusedSimpArgs false

set_option maxHeartbeats 8000000 in
theorem writeE_any (A : Option Addr) (c : Nat) (l : List En) (w : World) (h : RdK enK w w.heap.size A l) (hF : ∀ x ∈ l, FineE x) (hn : l.length ≤ 1000) :
    Calls Tryz.prog 99 #[.slice A l.length c, fn 51] w fun e w' => Bts w (writeL codE l) e w' := by
  by_cases hl : 64 < l.length
  · have i1 : (64 : Int) < (l.length : Int) := by omega
    have e : writeL codE l = none := by unfold writeL; rw [if_pos hl]
    rw [e]
    clear h hF
    go_enter Tryz.func99, Tryz.ntmps99
    go_wp2
    go_ret2
    exact ⟨_, 3, rfl, .no', Below.refl _ _⟩
  · have i1 : ¬ (64 : Int) < (l.length : Int) := by omega
    have hz := YX.zero_wr
    have hb := bAl (Below.refl w.heap.size w) (.cells YX.zW 165)
    have HW0 : Hid (WAt (w.alloc (.cells YX.zW 165)) w.heap.size (some [])) := Lib.hid ⟨[], YX.p0, 0, YX.p0_len, by omega, by simp, by simp, YX.AtH.new _ _ _⟩
    have HB := Lib.hid hb
    have H := Lib.hid h
    have hu : IntKind.u64.wrap (l.length : Int) = (l.length : Int) := YX.wU (by omega)
    have CU := Lib.hid (fun (W : World) (q : WAt W w.heap.size (some [])) => (YX.wUint_any (ptr w.heap.size) (some []) l.length _ rfl (by omega) W (wpt q)).mono (fun e w' r => wrt r))
    have CP := Lib.hid (fun (W : World) (s : Option Bs) (x : En) (hx : x ∈ l) (q : WAt W w.heap.size s) => putEntry_any w.heap.size s x W (hF x hx) q)
    have HE : Hid (writeL codE l = l.foldl codE.W (addW (some []) (numB l.length))) := Lib.hid (by unfold writeL; rw [if_neg hl])
    have hent := enters_of Tryz.func51 (by kernel_rfl) rfl
    obtain ⟨s0, hs0⟩ : ∃ s0, s0 = addW (some []) (numB l.length) := ⟨_, rfl⟩
    rw [← hs0] at CU HE
    clear h hF hb hs0
    go_enter Tryz.func99, Tryz.ntmps99
    go_wp2_with (go_at_call 94; ((refine (CU.out _ HW0.out).mono ?_); rintro e w2 ⟨rfl, r2, k2⟩; have HW2 := Lib.hid r2; have K2 := Lib.hid (Kept.trans (.of_below HB.out) k2 |>.below (Nat.le_refl _) (fun k hk => show k ≠ w.heap.size by omega)); clear r2 k2))
    go_loopw [18] (fun i wr => ∃ k : Nat, i = .int .i64 k ∧ k ≤ l.length ∧ Hid (WAt wr w.heap.size ((l.take k).foldl codE.W s0)) ∧ Below w.heap.size w wr) (fun i _ => l.length - (intOf i).toNat)
    case atStart => exact ⟨0, rfl, by omega, HW2, K2.out⟩
    case round =>
      obtain ⟨k, rfl, hk, HWr, k3⟩ := hrel
      have K3 := Lib.hid k3
      by_cases hlt : k < l.length
      · have i2 : (k : Int) < (l.length : Int) := by omega
        have hx : l[k] ∈ l := List.getElem_mem hlt
        have hgk : l[k]? = some l[k] := List.getElem?_eq_getElem hlt
        have hrd := H.out.below k3
        have HN : Hid ((l.take (k + 1)).foldl codE.W s0 = codE.W ((l.take k).foldl codE.W s0) l[k]) := Lib.hid (by rw [List.take_succ_eq_append_getElem hlt, List.foldl_append]; rfl)
        obtain ⟨b, off, rfl, hbk, hc0⟩ : ∃ b off, A = some ⟨b, off, none⟩ ∧ b < w.heap.size ∧ wr.rangeAt b (off + k * 18) (enC l[k]).toList := by
          rcases hrd with h | ⟨b, off, h1, h2, h3⟩
          · rw [h] at hlt; simp at hlt
          · exact ⟨b, off, h1, h2, fun j v hv => by rw [Nat.add_assoc]; exact h3 _ _ (cellsK_at enK hgk hv)⟩
        generalize (l.take k).foldl codE.W s0 = sk at *
        generalize l[k] = x at *
        have hsz := k3.size
        have ht : (wr.alloc (.cells (enC zeroEn) 103)).there wr.heap.size 0 (enC x).size := fun j hj => by
          rw [Nat.zero_add]
          have m := AtC.new wr (enC zeroEn) 103
          refine ⟨?_, m.f j⟩
          rw [m.c j]
          have hj : j < 18 := hj
          have : j < (enC zeroEn).size := hj
          rw [Array.getElem?_eq_getElem this]; rfl
        have h1 : (enC x).all (·.oneCell') = true := all_oneCell_toArray (fun v hv => by simp at hv; rcases hv with rfl | rfl | rfl | rfl | rfl | rfl | rfl | rfl | rfl | rfl | rfl | rfl | rfl | rfl | rfl | rfl | rfl | rfl <;> rfl)
        have eS : (wr.alloc (.cells (enC zeroEn) 103)).setCells wr.heap.size 0 (enC x).toList = stC (wr.alloc (.cells (enC zeroEn) 103)) wr.heap.size 0 (enC x).toList := setCells_st _ _ _ _
        have m5 : AtC ((wr.alloc (.cells (enC zeroEn) 103)).setCells wr.heap.size 0 (enC x).toList) wr.heap.size (enC x) := by rw [eS]; exact at_all (enC zeroEn).toList (enC x).toList (AtC.new _ _ _) rfl
        have hc2 : ((wr.alloc (.cells (enC zeroEn) 103)).setCells wr.heap.size 0 (enC x).toList).rangeAt wr.heap.size 0 (enC x).toList := fun j v hv => by
          rw [Nat.zero_add, m5.c j, ← hv]; exact Array.getElem?_toList.symm
        have kn : Kept wr ((wr.alloc (.cells (enC zeroEn) 103)).setCells wr.heap.size 0 (enC x).toList) (fun _ => True) := by rw [eS]; exact kept_stC (fun h => absurd h (by omega)) _ _ _ (.of_below (bAl (Below.refl _ _) _))
        have bn : Below wr.heap.size wr ((wr.alloc (.cells (enC zeroEn) 103)).setCells wr.heap.size 0 (enC x).toList) := kn.below (Nat.le_refl _) (fun _ _ => trivial)
        have CPk := Lib.hid (CP.out _ sk x hx (HWr.out.below bn))
        have BN := Lib.hid bn
        clear bn kn m5 eS hrd hgk
        go_wp2_with (first
          | ((show wpList _ _ _ ({ dst := some 21, op := _, type := _, pos := _, after := _, guard := _ } :: _) _ _); (refine wpList_load_mid rfl _ _ rfl b (off + k * 18) rfl (enC x).toList _ hc0 Tryz.underlying103 rfl (by kernel_rfl) ?_))
          | ((show wpList _ _ _ [{ dst := none, op := _, type := _, pos := _, after := _, guard := _ }] _ _); (refine wpList_store_mid rfl _ _ _ rfl wr.heap.size 0 (enC x) rfl rfl ht (by kernel_rfl) h1 ?_))
          | ((show wpList _ _ _ ({ dst := some 23, op := _, type := _, pos := _, after := _, guard := _ } :: _) _ _); (refine wpList_load_mid rfl _ _ rfl wr.heap.size 0 rfl (enC x).toList _ hc2 Tryz.underlying103 rfl (by kernel_rfl) ?_))
          | ((refine CPk.out.mono ?_); rintro e w4 ⟨rfl, r4, k4⟩; have HW4 := Lib.hid r4; have K4 := Lib.hid (bThen K3.out BN.out); have K5 := Lib.hid ((Kept.trans (P := (· ≠ w.heap.size)) (.of_below K4.out) k4).below (Nat.le_refl _) (fun k hk => show k ≠ w.heap.size by omega)); clear r4 k4))
        go_roundw
        case rel => exact ⟨k + 1, by go_num, by omega, Lib.hid (by rw [HN.out]; exact HW4.out), K5.out⟩
        case measure => simp [intOf]; omega
      · obtain rfl : k = l.length := by omega
        have i2 : ¬ (l.length : Int) < (l.length : Int) := by omega
        rw [List.take_length, ← HE.out] at HWr
        have CY := Lib.hid (bytes_any w.heap.size _ wr HWr.out)
        clear HE
        obtain ⟨r, hr⟩ : ∃ r, writeL codE l = r := ⟨_, rfl⟩
        rw [hr] at CY HWr
        have HRr := Lib.hid hr
        clear hr
        go_wp2_with (go_at_call 106; ((refine CY.out.mono ?_); rintro e w6 ⟨v, n, rfl, b6, k6⟩; have B6 := Lib.hid b6; have K6 := Lib.hid (bThen K3.out k6); clear b6 k6))
        go_ret2
        exact ⟨v, n, rfl, by rw [HRr.out]; exact B6.out, K6.out⟩
end Go.Proofs.YtkgjgbenfpkekaaGreat.PX
