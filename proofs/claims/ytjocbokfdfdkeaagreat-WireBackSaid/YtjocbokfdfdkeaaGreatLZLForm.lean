/-
  WALKS: the forms of changes and of reports; a list of changes put.
-/
import Derived.Test.YtjocbokfdfdkeaaGreatLZPRest
import Derived.Test.YtjocbokfdfdkeaaGreatLZ5
import Derived.Deep.RegionHeld3
namespace Go.Proofs.YtjocbokfdfdkeaaGreat.PX
open Go.RowKit HL
open IX (ptr El cellsK cellsK_at cellsK_len OwnK RdK Kept)
open YX (numB rdU rdB rdT rdS rdI addW intN natI rest told WAt WPt Wr RAt vS vU vI u8K Got)
open DX (Ch ch chCells chK)
set_option maxRecDepth 100000
set_option linter.unusedVariables false
set_option linter.unusedSimpArgs false

abbrev fm (p g : Nat) : Value := .agg #[fn p, fn g]
theorem changes_any (w : World) : Calls Tryz.prog 101 #[] w fun e w' => e = .returned (fm 84 91) ∧ Below w.heap.size w w' := by
  go_enter Tryz.func101, Tryz.ntmps101
  go_wp2
  refine ret_row (C := #[fn 84, fn 91]) (B := w.heap.size) rfl rfl rfl (AtC.new _ _ _) (by kernel_rfl) (by kernel_rfl) ⟨rfl, bAl (Below.refl _ _) _⟩
theorem reports_any (w : World) : Calls Tryz.prog 41 #[] w fun e w' => e = .returned (fm 70 71) ∧ Below w.heap.size w w' := by
  go_enter Tryz.func41, Tryz.ntmps41
  go_wp2
  refine ret_row (C := #[fn 70, fn 71]) (B := w.heap.size) rfl rfl rfl (AtC.new _ _ _) (by kernel_rfl) (by kernel_rfl) ⟨rfl, bAl (Below.refl _ _) _⟩
def putsW {α : Type} (C : Cod α) (s : Option Bs) (l : List α) : Option Bs := l.foldl C.W (addW s (numB l.length))
set_option maxHeartbeats 8000000 in
theorem putListC_any (Bw : Nat) (s : Option Bs) (A : Option Addr) (c : Nat) (l : List Ch) (g : Nat) (w : World) (hw : WAt w Bw s) (h : RdK chK w w.heap.size A l) (hne : ∀ a, A = some a → l ≠ [] → a.block ≠ Bw) (hF : ∀ x ∈ l, FineC x) (hn : l.length ≤ 1000) :
    Calls Tryz.prog 102 #[fm 84 g, ptr Bw, .slice A l.length c] w fun e w' => Wrt w Bw (putsW codC s l) e w' := by
  have hb := bAl (Below.refl w.heap.size w) (.cells #[fn 84, fn g] 152)
  have hBw := hw.lt
  have HW0 := Lib.hid (hw.below hb)
  have MF := Lib.hid (AtC.new w #[fn 84, fn g] 152)
  have HB := Lib.hid hb
  have H := Lib.hid h
  have HNE := Lib.hid hne
  have hu : IntKind.u64.wrap (l.length : Int) = (l.length : Int) := YX.wU (by omega)
  have CU := Lib.hid (fun (W : World) (q : WAt W Bw s) => (YX.wUint_any (ptr Bw) s l.length _ rfl (by omega) W (wpt q)).mono (fun e w' r => wrt r))
  have CP := Lib.hid (fun (W : World) (s : Option Bs) (x : Ch) (hx : x ∈ l) (q : WAt W Bw s) => putChange_any Bw s x W (hF x hx) q)
  have HE : Hid (putsW codC s l = l.foldl codC.W (addW s (numB l.length))) := Lib.hid rfl
  have hent := enters_of Tryz.func84 (by kernel_rfl) rfl
  obtain ⟨s0, hs0⟩ : ∃ s0, s0 = addW s (numB l.length) := ⟨_, rfl⟩
  rw [← hs0] at CU HE
  rw [HE.out]
  clear h hF hb hs0 hw hne HE
  go_enter Tryz.func102, Tryz.ntmps102
  go_wp2_with (go_at_call 87; ((refine (CU.out _ HW0.out).mono ?_); rintro e w2 ⟨rfl, r2, k2⟩; have HW2 := Lib.hid r2; have K2 := Lib.hid (Kept.trans (.of_below HB.out) k2); have MF2 := Lib.hid (MF.out.kept k2 (show w.heap.size ≠ Bw by omega)); clear r2 k2))
  go_loopw [15] (fun i wr => ∃ k : Nat, i = .int .i64 k ∧ k ≤ l.length ∧ Hid (WAt wr Bw ((l.take k).foldl codC.W s0)) ∧ Hid (AtC wr w.heap.size #[fn 84, fn g]) ∧ Kept w wr (· ≠ Bw)) (fun i _ => l.length - (intOf i).toNat)
  case atStart => exact ⟨0, rfl, by omega, HW2, MF2, K2.out⟩
  case round =>
    obtain ⟨k, rfl, hk, HWr, MFr, k3⟩ := hrel
    have K3 := Lib.hid k3
    by_cases hlt : k < l.length
    · have i2 : (k : Int) < (l.length : Int) := by omega
      obtain ⟨b, off, rfl, hbk, hcc⟩ := DX.chs_at (IX.RdK.kept H.out k3 (Nat.le_refl _) (fun a e => HNE.out a e (fun q => by rw [q] at hlt; simp at hlt))) (by omega)
      obtain ⟨p0, p1, p2, p3, p4, p5, p6, p7, p8, p9, p10, p11, p12, p13, p14⟩ := hcc k _ (List.getElem?_eq_getElem hlt)
      have hx : l[k] ∈ l := List.getElem_mem hlt
      have HN : Hid ((l.take (k + 1)).foldl codC.W s0 = codC.W ((l.take k).foldl codC.W s0) l[k]) := Lib.hid (by rw [List.take_succ_eq_append_getElem hlt, List.foldl_append]; rfl)
      generalize (l.take k).foldl codC.W s0 = sk at *
      generalize l[k] = x at *
      have bn := bAl (Below.refl wr.heap.size wr) (.cells (chCells x) 26)
      have CPk := Lib.hid (CP.out _ sk x hx (HWr.out.below bn))
      have BN := Lib.hid bn
      have hsz := k3.size
      have mf := MFr.out.then bn
      have mf0 := mf.c 0
      have mfl := MFr.out.lt
      clear hcc bn mf
      go_wp2_with ((refine CPk.out.mono ?_); rintro e w4 ⟨rfl, r4, k4⟩; have HW4 := Lib.hid r4; have MF4 := Lib.hid ((MFr.out.then BN.out).kept k4 (show w.heap.size ≠ Bw by omega)); have K5 := Lib.hid (Kept.trans (K3.out.trans (.of_below BN.out)) k4); clear r4 k4)
      go_roundw
      case rel => exact ⟨k + 1, by go_num, by omega, Lib.hid (by rw [HN.out]; exact HW4.out), MF4, K5.out⟩
      case measure => (simp [intOf]; try omega)
    · obtain rfl : k = l.length := by omega
      have i2 : ¬ (l.length : Int) < (l.length : Int) := by omega
      rw [List.take_length] at HWr
      go_wp2
      go_end0
      exact ⟨rfl, HWr.out, K3.out⟩
end Go.Proofs.YtjocbokfdfdkeaaGreat.PX
