/-
  WALKS: a list written: write[api.Object].
-/
import Derived.Test.YtkgjgbenfpkekaaPRest
import Derived.Test.YtkgjgbenfpkekaaYBytes
import Derived.Test.YtkgjgbenfpkekaaPKit
namespace Go.Proofs.Ytkgjgbenfpkekaa.PX
open Go.RowKit HL
open IX (ptr El cellsK cellsK_at cellsK_len OwnK RdK Kept)
open YX (numB rdU rdB rdT rdS rdI addW intN natI rest told WAt WPt Wr RAt vS vU vI u8K Got)
open WX (obK obs_at)
set_option maxRecDepth 100000
set_option linter.unusedVariables false
set_option linter.unusedSimpArgs false

set_option maxHeartbeats 8000000 in
theorem writeO_any (A : Option Addr) (c : Nat) (l : List Ob) (w : World) (h : RdK obK w w.heap.size A l) (hF : ∀ x ∈ l, Fine x) (hn : l.length ≤ 1000) :
    Calls Try.prog 31 #[.slice A l.length c, fn 16] w fun e w' => Bts w (writeL codO l) e w' := by
  by_cases hl : 64 < l.length
  · have i1 : (64 : Int) < (l.length : Int) := by omega
    have e : writeL codO l = none := by unfold writeL; rw [if_pos hl]
    rw [e]
    clear h hF
    go_enter Try.func31, Try.ntmps31
    go_wp2
    go_ret2
    exact ⟨_, 3, rfl, .no', Below.refl _ _⟩
  · have i1 : ¬ (64 : Int) < (l.length : Int) := by omega
    have hz := YX.zero_wr
    have hb := bAl (Below.refl w.heap.size w) (.cells YX.zW 48)
    have HW0 : Hid (WAt (w.alloc (.cells YX.zW 48)) w.heap.size (some [])) := Lib.hid ⟨[], YX.p0, 0, YX.p0_len, by omega, by simp, by simp, YX.AtH.new _ _ _⟩
    have HB := Lib.hid hb
    have H := Lib.hid h
    have hu : IntKind.u64.wrap (l.length : Int) = (l.length : Int) := YX.wU (by omega)
    have CU := Lib.hid (fun (W : World) (q : WAt W w.heap.size (some [])) => (YX.wUint_any (ptr w.heap.size) (some []) l.length _ rfl (by omega) W (wpt q)).mono (fun e w' r => wrt r))
    have CP := Lib.hid (fun (W : World) (s : Option Bs) (x : Ob) (hx : x ∈ l) (q : WAt W w.heap.size s) => putObject_any w.heap.size s x W (hF x hx) q)
    have HE : Hid (writeL codO l = l.foldl codO.W (addW (some []) (numB l.length))) := Lib.hid (by unfold writeL; rw [if_neg hl])
    have hent := enters_of Try.func16 (by kernel_rfl) rfl
    obtain ⟨s0, hs0⟩ : ∃ s0, s0 = addW (some []) (numB l.length) := ⟨_, rfl⟩
    rw [← hs0] at CU HE
    clear h hF hb hs0
    go_enter Try.func31, Try.ntmps31
    go_wp2_with (go_at_call 46; ((refine (CU.out _ HW0.out).mono ?_); rintro e w2 ⟨rfl, r2, k2⟩; have HW2 := Lib.hid r2; have K2 := Lib.hid (Kept.trans (.of_below HB.out) k2 |>.below (Nat.le_refl _) (fun k hk => show k ≠ w.heap.size by omega)); clear r2 k2))
    go_loopw [18] (fun i wr => ∃ k : Nat, i = .int .i64 k ∧ k ≤ l.length ∧ Hid (WAt wr w.heap.size ((l.take k).foldl codO.W s0)) ∧ Below w.heap.size w wr) (fun i _ => l.length - (intOf i).toNat)
    case atStart => exact ⟨0, rfl, by omega, HW2, K2.out⟩
    case round =>
      obtain ⟨k, rfl, hk, HWr, k3⟩ := hrel
      have K3 := Lib.hid k3
      by_cases hlt : k < l.length
      · have i2 : (k : Int) < (l.length : Int) := by omega
        obtain ⟨b, off, rfl, hbk, hcc⟩ := WX.obs_at (H.out.below k3) (by omega)
        obtain ⟨p0, p1, p2, p3, p4, p5, p6, p7, p8, p9, p10, p11, p12, p13⟩ := hcc k _ (List.getElem?_eq_getElem hlt)
        have hx : l[k] ∈ l := List.getElem_mem hlt
        have HN : Hid ((l.take (k + 1)).foldl codO.W s0 = codO.W ((l.take k).foldl codO.W s0) l[k]) := Lib.hid (by rw [List.take_succ_eq_append_getElem hlt, List.foldl_append]; rfl)
        generalize (l.take k).foldl codO.W s0 = sk at *
        generalize l[k] = x at *
        have bn := bAl (Below.refl wr.heap.size wr) (.cells (obCells x) 37)
        have CPk := Lib.hid (CP.out _ sk x hx (HWr.out.below bn))
        have BN := Lib.hid bn
        have hsz := k3.size
        clear hcc bn
        go_wp2_with ((refine CPk.out.mono ?_); rintro e w4 ⟨rfl, r4, k4⟩; have HW4 := Lib.hid r4; have K4 := Lib.hid (bThen K3.out BN.out); have K5 := Lib.hid ((Kept.trans (P := (· ≠ w.heap.size)) (.of_below K4.out) k4).below (Nat.le_refl _) (fun k hk => show k ≠ w.heap.size by omega)); clear r4 k4)
        go_roundw
        case rel => exact ⟨k + 1, by go_num, by omega, Lib.hid (by rw [HN.out]; exact HW4.out), K5.out⟩
        case measure => simp [intOf]; omega
      · obtain rfl : k = l.length := by omega
        have i2 : ¬ (l.length : Int) < (l.length : Int) := by omega
        rw [List.take_length, ← HE.out] at HWr
        have CY := Lib.hid (bytes_any w.heap.size _ wr HWr.out)
        clear HE
        obtain ⟨r, hr⟩ : ∃ r, writeL codO l = r := ⟨_, rfl⟩
        rw [hr] at CY HWr
        have HRr := Lib.hid hr
        clear hr
        go_wp2_with (go_at_call 18; ((refine CY.out.mono ?_); rintro e w6 ⟨v, n, rfl, b6, k6⟩; have B6 := Lib.hid b6; have K6 := Lib.hid (bThen K3.out k6); clear b6 k6))
        go_ret2
        exact ⟨v, n, rfl, by rw [HRr.out]; exact B6.out, K6.out⟩
theorem lawO_any (A : Option Addr) (c : Nat) (l : List Ob) (w : World) (h : RdK obK w w.heap.size A l) (hF : ∀ x ∈ l, Fine x) (hn : l.length ≤ 1000) :
    Calls Try.prog 8 #[.slice A l.length c] w fun e w' => Bts w (writeL codO l) e w' := by
  have C := Lib.hid (writeO_any A c l w h hF hn)
  clear h hF
  obtain ⟨r, hr⟩ : ∃ r, writeL codO l = r := ⟨_, rfl⟩
  rw [hr] at C ⊢
  clear hr
  go_enter Try.func8, Try.ntmps8
  go_wp2_with (go_at_call 31; ((refine C.out.mono ?_); rintro e w6 ⟨v, n, rfl, b6, k6⟩; have B6 := Lib.hid b6; have K6 := Lib.hid k6; clear b6 k6))
  go_ret2
  exact ⟨v, n, rfl, B6.out, K6.out⟩
end Go.Proofs.Ytkgjgbenfpkekaa.PX
