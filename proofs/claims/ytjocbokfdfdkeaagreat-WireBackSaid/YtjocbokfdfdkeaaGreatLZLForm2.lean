/-
  WALKS: lists of texts and of entries put; their forms.
-/
import Derived.Test.YtjocbokfdfdkeaaGreatLZLForm
import Derived.Test.YtjocbokfdfdkeaaGreatLZ6
import Derived.Test.YtjocbokfdfdkeaaGreatLZYWrite
import Derived.Deep.MidRow
namespace Go.Proofs.YtjocbokfdfdkeaaGreat.PX
open Go.RowKit HL
open IX (ptr El cellsK cellsK_at cellsK_len OwnK RdK Kept strK)
open YX (numB rdU rdB rdT rdS rdI addW intN natI rest told WAt WPt Wr RAt vS vU vI u8K Got)
open DX (Ch ch chCells chK)
set_option maxRecDepth 100000
set_option linter.unusedVariables false
set_option linter.unusedSimpArgs false

/-- Texts. -/
def codS : Cod Bs where
  B := fun s => numB s.length ++ s
  short := fun s => decide (s.length ≤ 255)
  W := textW
  rd := fun s => (told [] rdS s, rest rdS s)
  fine := fun s => s.length ≤ 1000
  w_eq := fun s x => by
    unfold textW
    by_cases h : 255 < x.length
    · rw [if_pos h, decide_eq_false (by omega)]; rfl
    · rw [if_neg h, decide_eq_true (by omega)]; rfl
  rd_B := fun x _ hs r => by
    have := rd_s (t := x) (by simpa using hs) r
    rw [this.1, this.2]
  rd_fine := fun s => by have := textS s; show (told [] rdS s).length ≤ 1000; omega
  rd_none := rfl
  rd_len := fun m l h => rest_len lenS h
  b_len := fun x h => by
    have h : x.length ≤ 1000 := h
    have := numB_le (show x.length < 18446744073709551616 by omega)
    rw [List.length_append]; omega
theorem handles_any (w : World) : Calls Tryz.prog 82 #[] w fun e w' => e = .returned (fm 81 89) ∧ Below w.heap.size w w' := by
  go_enter Tryz.func82, Tryz.ntmps82
  go_wp2
  refine ret_row (C := #[fn 81, fn 89]) (B := w.heap.size) rfl rfl rfl (AtC.new _ _ _) (by kernel_rfl) (by kernel_rfl) ⟨rfl, bAl (Below.refl _ _) _⟩
theorem entries_any (w : World) : Calls Tryz.prog 98 #[] w fun e w' => e = .returned (fm 121 122) ∧ Below w.heap.size w w' := by
  go_enter Tryz.func98, Tryz.ntmps98
  go_wp2
  refine ret_row (C := #[fn 121, fn 122]) (B := w.heap.size) rfl rfl rfl (AtC.new _ _ _) (by kernel_rfl) (by kernel_rfl) ⟨rfl, bAl (Below.refl _ _) _⟩
set_option maxHeartbeats 8000000 in
theorem putListS_any (Bw : Nat) (s : Option Bs) (A : Option Addr) (c : Nat) (l : List Bs) (g : Nat) (w : World) (hw : WAt w Bw s) (h : RdK strK w w.heap.size A l) (hne : ∀ a, A = some a → l ≠ [] → a.block ≠ Bw) (hF : ∀ x ∈ l, x.length ≤ 1000) (hn : l.length ≤ 1000) :
    Calls Tryz.prog 83 #[fm 81 g, ptr Bw, .slice A l.length c] w fun e w' => Wrt w Bw (putsW codS s l) e w' := by
  have hb := bAl (Below.refl w.heap.size w) (.cells #[fn 81, fn g] 134)
  have hBw := hw.lt
  have HW0 := Lib.hid (hw.below hb)
  have MF := Lib.hid (AtC.new w #[fn 81, fn g] 134)
  have HB := Lib.hid hb
  have H := Lib.hid h
  have HNE := Lib.hid hne
  have hu : IntKind.u64.wrap (l.length : Int) = (l.length : Int) := YX.wU (by omega)
  have CU := Lib.hid (fun (W : World) (q : WAt W Bw s) => (YX.wUint_any (ptr Bw) s l.length _ rfl (by omega) W (wpt q)).mono (fun e w' r => wrt r))
  have CP := Lib.hid (fun (W : World) (s : Option Bs) (x : Bs) (hx : x ∈ l) (q : WAt W Bw s) => (YX.wText_any (ptr Bw) s x W (by have := hF x hx; omega) (wpt q)).mono (fun e w' r => wrt r))
  have HE : Hid (putsW codS s l = l.foldl codS.W (addW s (numB l.length))) := Lib.hid rfl
  have hent := enters_of Tryz.func81 (by kernel_rfl) rfl
  obtain ⟨s0, hs0⟩ : ∃ s0, s0 = addW s (numB l.length) := ⟨_, rfl⟩
  rw [← hs0] at CU HE
  rw [HE.out]
  clear h hF hb hs0 hw hne HE
  go_enter Tryz.func83, Tryz.ntmps83
  go_wp2_with (go_at_call 87; ((refine (CU.out _ HW0.out).mono ?_); rintro e w2 ⟨rfl, r2, k2⟩; have HW2 := Lib.hid r2; have K2 := Lib.hid (Kept.trans (.of_below HB.out) k2); have MF2 := Lib.hid (MF.out.kept k2 (show w.heap.size ≠ Bw by omega)); clear r2 k2))
  go_loopw [15] (fun i wr => ∃ k : Nat, i = .int .i64 k ∧ k ≤ l.length ∧ Hid (WAt wr Bw ((l.take k).foldl codS.W s0)) ∧ Hid (AtC wr w.heap.size #[fn 81, fn g]) ∧ Kept w wr (· ≠ Bw)) (fun i _ => l.length - (intOf i).toNat)
  case atStart => exact ⟨0, rfl, by omega, HW2, MF2, K2.out⟩
  case round =>
    obtain ⟨k, rfl, hk, HWr, MFr, k3⟩ := hrel
    have K3 := Lib.hid k3
    by_cases hlt : k < l.length
    · have i2 : (k : Int) < (l.length : Int) := by omega
      obtain ⟨b, off, rfl, hbk, hcc⟩ : ∃ b off, A = some ⟨b, off, none⟩ ∧ b < w.heap.size ∧ wr.cell? ⟨b, off + k, none⟩ = some (str l[k]) := by
        have q0 := IX.RdK.strs (IX.RdK.kept H.out k3 (Nat.le_refl _) (fun a e => HNE.out a e (fun q => by rw [q] at hlt; simp at hlt)))
        rcases q0 with q | ⟨b, off, e, hb, hc⟩
        · rw [q] at hlt; simp at hlt
        · exact ⟨b, off, e, hb, hc k _ (List.getElem?_eq_getElem hlt)⟩
      have hx : l[k] ∈ l := List.getElem_mem hlt
      have HN : Hid ((l.take (k + 1)).foldl codS.W s0 = codS.W ((l.take k).foldl codS.W s0) l[k]) := Lib.hid (by rw [List.take_succ_eq_append_getElem hlt, List.foldl_append]; rfl)
      generalize (l.take k).foldl codS.W s0 = sk at *
      generalize l[k] = x at *
      have CPk := Lib.hid (CP.out _ sk x hx HWr.out)
      have hsz := k3.size
      have mf0 := MFr.out.c 0
      have mfl := MFr.out.lt
      go_wp2_with ((refine CPk.out.mono ?_); rintro e w4 ⟨rfl, r4, k4⟩; have HW4 := Lib.hid r4; have MF4 := Lib.hid (MFr.out.kept k4 (show w.heap.size ≠ Bw by omega)); have K5 := Lib.hid (K3.out.trans k4); clear r4 k4)
      go_roundw
      case rel => exact ⟨k + 1, by go_num, by omega, Lib.hid (by rw [HN.out]; exact HW4.out), MF4, K5.out⟩
      case measure => (simp [intOf]; try omega)
    · obtain rfl : k = l.length := by omega
      have i2 : ¬ (l.length : Int) < (l.length : Int) := by omega
      rw [List.take_length] at HWr
      go_wp2
      go_end0
      exact ⟨rfl, HWr.out, K3.out⟩
set_option maxHeartbeats 8000000 in
theorem putListE_any (Bw : Nat) (s : Option Bs) (A : Option Addr) (c : Nat) (l : List En) (g : Nat) (w : World) (hw : WAt w Bw s) (h : RdK enK w w.heap.size A l) (hne : ∀ a, A = some a → l ≠ [] → a.block ≠ Bw) (hF : ∀ x ∈ l, FineE x) (hn : l.length ≤ 1000) :
    Calls Tryz.prog 99 #[fm 121 g, ptr Bw, .slice A l.length c] w fun e w' => Wrt w Bw (putsW codE s l) e w' := by
  have hb := bAl (Below.refl w.heap.size w) (.cells #[fn 121, fn g] 147)
  have hBw := hw.lt
  have HW0 := Lib.hid (hw.below hb)
  have MF := Lib.hid (AtC.new w #[fn 121, fn g] 147)
  have HB := Lib.hid hb
  have H := Lib.hid h
  have HNE := Lib.hid hne
  have hu : IntKind.u64.wrap (l.length : Int) = (l.length : Int) := YX.wU (by omega)
  have CU := Lib.hid (fun (W : World) (q : WAt W Bw s) => (YX.wUint_any (ptr Bw) s l.length _ rfl (by omega) W (wpt q)).mono (fun e w' r => wrt r))
  have CP := Lib.hid (fun (W : World) (s : Option Bs) (x : En) (hx : x ∈ l) (q : WAt W Bw s) => putEntry_any Bw s x W (hF x hx) q)
  have HE : Hid (putsW codE s l = l.foldl codE.W (addW s (numB l.length))) := Lib.hid rfl
  have hent := enters_of Tryz.func121 (by kernel_rfl) rfl
  obtain ⟨s0, hs0⟩ : ∃ s0, s0 = addW s (numB l.length) := ⟨_, rfl⟩
  rw [← hs0] at CU HE
  rw [HE.out]
  clear h hF hb hs0 hw hne HE
  go_enter Tryz.func99, Tryz.ntmps99
  go_wp2_with (go_at_call 87; ((refine (CU.out _ HW0.out).mono ?_); rintro e w2 ⟨rfl, r2, k2⟩; have HW2 := Lib.hid r2; have K2 := Lib.hid (Kept.trans (.of_below HB.out) k2); have MF2 := Lib.hid (MF.out.kept k2 (show w.heap.size ≠ Bw by omega)); clear r2 k2))
  go_loopw [15] (fun i wr => ∃ k : Nat, i = .int .i64 k ∧ k ≤ l.length ∧ Hid (WAt wr Bw ((l.take k).foldl codE.W s0)) ∧ Hid (AtC wr w.heap.size #[fn 121, fn g]) ∧ Kept w wr (· ≠ Bw)) (fun i _ => l.length - (intOf i).toNat)
  case atStart => exact ⟨0, rfl, by omega, HW2, MF2, K2.out⟩
  case round =>
    obtain ⟨k, rfl, hk, HWr, MFr, k3⟩ := hrel
    have K3 := Lib.hid k3
    by_cases hlt : k < l.length
    · have i2 : (k : Int) < (l.length : Int) := by omega
      have hrd := IX.RdK.kept H.out k3 (Nat.le_refl _) (fun a e => HNE.out a e (fun q => by rw [q] at hlt; simp at hlt))
      obtain ⟨b, off, rfl, hbk, hc0⟩ : ∃ b off, A = some ⟨b, off, none⟩ ∧ b < w.heap.size ∧ wr.rangeAt b (off + k * 18) (enC l[k]).toList := by
        rcases hrd with h | ⟨b, off, h1, h2, h3⟩
        · rw [h] at hlt; simp at hlt
        · exact ⟨b, off, h1, h2, fun j v hv => by rw [Nat.add_assoc]; exact h3 _ _ (cellsK_at enK (List.getElem?_eq_getElem hlt) hv)⟩
      have hx : l[k] ∈ l := List.getElem_mem hlt
      have HN : Hid ((l.take (k + 1)).foldl codE.W s0 = codE.W ((l.take k).foldl codE.W s0) l[k]) := Lib.hid (by rw [List.take_succ_eq_append_getElem hlt, List.foldl_append]; rfl)
      generalize (l.take k).foldl codE.W s0 = sk at *
      generalize l[k] = x at *
      have ht : (wr.alloc (.cells (enC zeroEn) 90)).there wr.heap.size 0 (enC x).size := fun j hj => by
        rw [Nat.zero_add]
        have m := AtC.new wr (enC zeroEn) 90
        refine ⟨?_, m.f j⟩
        rw [m.c j]
        have hj : j < 18 := hj
        have : j < (enC zeroEn).size := hj
        rw [Array.getElem?_eq_getElem this]; rfl
      have h1 : (enC x).all (·.oneCell') = true := all_oneCell_toArray (fun v hv => by simp at hv; rcases hv with rfl | rfl | rfl | rfl | rfl | rfl | rfl | rfl | rfl | rfl | rfl | rfl | rfl | rfl | rfl | rfl | rfl | rfl <;> rfl)
      have eS : (wr.alloc (.cells (enC zeroEn) 90)).setCells wr.heap.size 0 (enC x).toList = stC (wr.alloc (.cells (enC zeroEn) 90)) wr.heap.size 0 (enC x).toList := setCells_st _ _ _ _
      have m5 : AtC ((wr.alloc (.cells (enC zeroEn) 90)).setCells wr.heap.size 0 (enC x).toList) wr.heap.size (enC x) := by rw [eS]; exact at_all (enC zeroEn).toList (enC x).toList (AtC.new _ _ _) rfl
      have hc2 : ((wr.alloc (.cells (enC zeroEn) 90)).setCells wr.heap.size 0 (enC x).toList).rangeAt wr.heap.size 0 (enC x).toList := fun j v hv => by
        rw [Nat.zero_add, m5.c j, ← hv]; exact Array.getElem?_toList.symm
      have kn : Kept wr ((wr.alloc (.cells (enC zeroEn) 90)).setCells wr.heap.size 0 (enC x).toList) (fun _ => True) := by rw [eS]; exact kept_stC (fun h => absurd h (by omega)) _ _ _ (.of_below (bAl (Below.refl _ _) _))
      have bn : Below wr.heap.size wr ((wr.alloc (.cells (enC zeroEn) 90)).setCells wr.heap.size 0 (enC x).toList) := kn.below (Nat.le_refl _) (fun _ _ => trivial)
      have CPk := Lib.hid (CP.out _ sk x hx (HWr.out.below bn))
      have BN := Lib.hid bn
      have hsz := k3.size
      have mf := MFr.out.then bn
      have mf0 := mf.c 0
      have mfl := MFr.out.lt
      clear bn kn m5 eS hrd mf
      go_upto_region 5 with (first
        | ((show wpList _ _ _ ({ dst := some 18, op := _, type := _, pos := _, after := _, guard := _ } :: _) _ _); (refine wpList_load_mid rfl _ _ rfl b (off + k * 18) rfl (enC x).toList _ hc0 Tryz.underlying90 rfl (by kernel_rfl) ?_))
        | ((show wpList _ _ _ [{ dst := none, op := _, type := _, pos := _, after := _, guard := _ }] _ _); (refine wpList_store_mid rfl _ _ _ rfl wr.heap.size 0 (enC x) rfl rfl ht (by kernel_rfl) h1 ?_)))
      change Code.wp _ _ _ _ ((wr.alloc (.cells (enC zeroEn) 90)).setCells wr.heap.size 0 (enC x).toList)
      generalize (wr.alloc (.cells (enC zeroEn) 90)).setCells wr.heap.size 0 (enC x).toList = W4 at *
      clear hc0 ht h1
      go_wp2_with (first
        | ((show wpList _ _ _ ({ dst := some 22, op := _, type := _, pos := _, after := _, guard := _ } :: _) _ _); (refine wpList_load_mid rfl _ _ rfl wr.heap.size 0 rfl (enC x).toList _ hc2 Tryz.underlying90 rfl (by kernel_rfl) ?_))
        | (go_at_call 121; (refine CPk.out.mono ?_); rintro e w4 ⟨rfl, r4, k4⟩; have HW4 := Lib.hid r4; have MF4 := Lib.hid ((MFr.out.then BN.out).kept k4 (show w.heap.size ≠ Bw by omega)); have K5 := Lib.hid (Kept.trans (K3.out.trans (.of_below BN.out)) k4); clear r4 k4))
      go_roundw
      case rel => exact ⟨k + 1, by go_num, by omega, Lib.hid (by rw [HN.out]; exact HW4.out), MF4, K5.out⟩
      case measure => (simp [intOf]; try omega)
    · obtain rfl : k = l.length := by omega
      have i2 : ¬ (l.length : Int) < (l.length : Int) := by omega
      rw [List.take_length] at HWr
      go_wp2
      go_end0
      exact ⟨rfl, HWr.out, K3.out⟩
end Go.Proofs.YtjocbokfdfdkeaaGreat.PX
