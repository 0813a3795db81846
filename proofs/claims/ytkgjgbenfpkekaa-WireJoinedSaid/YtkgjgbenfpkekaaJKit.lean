/-
  Rows of rows of bytes in memory; the program's putFrame.
-/
import Derived.Test.YtkgjgbenfpkekaaJMath
import Derived.Test.YtkgjgbenfpkekaaYWrite
import Derived.Test.YtkgjgbenfpkekaaPKit
import Derived.Test.YtkgjgbenfpkekaaPPart
import Derived.Test.YtkgjgbenfpkekaaPRow
namespace Go.Proofs.Ytkgjgbenfpkekaa.JX
open Go.RowKit HL
open IX (ptr El cellsK cellsK_at cellsK_len OwnK RdK Kept)
open YX (numB rdU addW told rest u8K WAt WPt Wr)
open PX (Wrt wrt wpt Bts)
set_option maxRecDepth 100000
set_option linter.unusedVariables false
set_option linter.unusedSimpArgs false

/-- A row of bytes as it lies in a row of rows. -/
structure Sl3 where
  A : Option Addr
  n : Nat
  c : Nat
noncomputable def slK : El Sl3 where
  T := 60
  e := 26
  size := 1
  bytes := (IX.infoOf 26).bytes
  z := .slice none 0 0
  i := IX.infoOf 26
  enc := fun x => [.slice x.A x.n x.c]
  el := by kernel_rfl
  ht := Try.underlying60
  hi := by kernel_rfl
  hz := by kernel_rfl
  hs := by kernel_rfl
  hb := rfl
  hzs := rfl
  pos := by decide
  len := fun _ => rfl
  one := fun _ u hu => by simp at hu; subst hu; rfl
  small := of_decide_eq_true (by kernel_rfl)
/-- The rows behind the cells read as these. -/
def Frs (w : World) (B : Nat) (L : List Sl3) (l : List Bs) : Prop := L.length = l.length ∧ ∀ (i : Nat) (x : Sl3) (f : Bs), L[i]? = some x → l[i]? = some f → x.n = f.length ∧ RdK u8K w B x.A f ∧ f.length ≤ x.c
theorem Frs.nil (w : World) (B : Nat) : Frs w B [] [] := ⟨rfl, fun i x f h => by simp at h⟩
theorem Frs.below {w w' : World} {B : Nat} {L : List Sl3} {l : List Bs} (h : Frs w B L l) (k : Below B w w') : Frs w' B L l := ⟨h.1, fun i x f a b => ⟨(h.2 i x f a b).1, (h.2 i x f a b).2.1.below k, (h.2 i x f a b).2.2⟩⟩
theorem Frs.more {w : World} {B B' : Nat} {L : List Sl3} {l : List Bs} (h : Frs w B L l) (k : B ≤ B') : Frs w B' L l := ⟨h.1, fun i x f a b => ⟨(h.2 i x f a b).1, (h.2 i x f a b).2.1.more k, (h.2 i x f a b).2.2⟩⟩
theorem Frs.snoc {w : World} {B : Nat} {L : List Sl3} {l : List Bs} (h : Frs w B L l) {x : Sl3} {f : Bs} (h1 : x.n = f.length) (h2 : RdK u8K w B x.A f) (h3 : f.length ≤ x.c) : Frs w B (L ++ [x]) (l ++ [f]) := by
  refine ⟨by simp [h.1], fun i y g a b => ?_⟩
  by_cases hi : i < L.length
  · rw [List.getElem?_append_left hi] at a
    rw [List.getElem?_append_left (by rw [← h.1]; exact hi)] at b
    exact h.2 i y g a b
  · rw [List.getElem?_append_right (by omega)] at a
    rw [List.getElem?_append_right (by rw [← h.1]; omega)] at b
    have hi0 : i - L.length = 0 := by have := (List.getElem?_eq_some_iff.1 a).1; simp at this; omega
    rw [hi0] at a
    rw [← h.1, hi0] at b
    simp at a b
    subst a b
    exact ⟨h1, h2, h3⟩
/-- One row of a row of rows. -/
theorem fr_at {w : World} {B k : Nat} {A : Option Addr} {L : List Sl3} {l : List Bs} (h : RdK slK w B A L) (hf : Frs w B L l) (hk : k < l.length) : ∃ b off x, A = some ⟨b, off, none⟩ ∧ b < B ∧ (∀ W, Below B w W → W.cell? ⟨b, off + k, none⟩ = some (.slice x.A l[k].length x.c)) ∧ (∀ W, Below B w W → RdK u8K W B x.A l[k]) ∧ l[k].length ≤ x.c ∧ L[k]? = some x := by
  have hkL : k < L.length := by rw [hf.1]; exact hk
  rcases h with h | ⟨b, off, e, hb, hc⟩
  · rw [h] at hkL; simp at hkL
  · obtain ⟨h1, h2, h3⟩ := hf.2 k L[k] l[k] (List.getElem?_eq_getElem hkL) (List.getElem?_eq_getElem hk)
    refine ⟨b, off, L[k], e, hb, fun W q => ?_, fun W q => h2.below q, h3, List.getElem?_eq_getElem hkL⟩
    have := hc _ _ (cellsK_at slK (List.getElem?_eq_getElem hkL) (i := 0) (u := .slice L[k].A L[k].n L[k].c) rfl)
    have e1 : k * slK.size + 0 = k := by show k * 1 + 0 = k; omega
    rw [e1, h1] at this
    exact (q.cell (p := ⟨b, _, none⟩) hb).trans this
set_option maxHeartbeats 4000000 in
theorem putFrame_any (Bw : Nat) (s : Option Bs) (A : Option Addr) (c : Nat) (f : Bs) (w : World) (hw : WAt w Bw s) (h : RdK u8K w w.heap.size A f) (hne : ∀ a, A = some a → a.block ≠ Bw) (hl : f.length ≤ 10000) :
    Calls Try.prog 53 #[ptr Bw, .slice A f.length c] w fun e w' => Wrt w Bw (addW s (numB f.length ++ f)) e w' := by
  have hu : IntKind.u64.wrap (f.length : Int) = (f.length : Int) := YX.wU (by omega)
  have CU := Lib.hid ((YX.wUint_any (ptr Bw) s f.length _ rfl (by omega) w (wpt hw)).mono (fun e w' q => wrt q))
  have CB := Lib.hid (fun (W : World) (s : Option Bs) (x : UInt8) (q : WAt W Bw s) => (YX.wByte_any (ptr Bw) s x.toNat x.toNat_lt W (wpt q)).mono (fun e w' r => wrt r))
  have HR := Lib.hid h
  have HNE := Lib.hid hne
  have HE : Hid (addW s (numB f.length ++ f) = addW (addW s (numB f.length)) f) := Lib.hid (PX.addW_app _ _ _).symm
  have HLm : Hid (∀ b, addW s (numB f.length) = some b → b.length ≤ 65536) := Lib.hid PX.addW_lim
  rw [HE.out]
  clear h hne hw HE
  generalize addW s (numB f.length) = s1 at *
  go_enter Try.func53, Try.ntmps53
  go_wp2_with (go_at_call 46; ((refine CU.out.mono ?_); rintro e w2 ⟨rfl, r2, k2⟩; have W2 := Lib.hid r2; have K2 := Lib.hid k2; clear r2 k2))
  go_loopw [13] (fun i wr => ∃ k : Nat, i = .int .i64 k ∧ k ≤ f.length ∧ Hid (WAt wr Bw (addW s1 (f.take k))) ∧ Kept w wr (· ≠ Bw)) (fun i _ => f.length - (intOf i).toNat)
  case atStart => exact ⟨0, rfl, by omega, Lib.hid (by rw [List.take_zero, PX.addW_nil s1 HLm.out]; exact W2.out), K2.out⟩
  case round =>
    obtain ⟨k, rfl, hk, hW, hb⟩ := hrel
    have K3 := Lib.hid hb
    clear W2 K2
    by_cases hlt : k < f.length
    · have i1 : (k : Int) < (f.length : Int) := by omega
      have R3 := (HR.out).kept hb (Nat.le_refl _) HNE.out
      obtain ⟨b, off, rfl, hbb, hcc⟩ := YX.RdY.at_ (YX.rdY R3) (by omega)
      have hc := hcc k f[k] (List.getElem?_eq_getElem hlt)
      have HN : Hid (addW s1 (f.take (k + 1)) = addW (addW s1 (f.take k)) [f[k]]) := Lib.hid (by rw [PX.addW_app, List.take_succ_eq_append_getElem hlt])
      have CBk := Lib.hid (CB.out wr (addW s1 (f.take k)) f[k] hW.out)
      rw [YX.n8u] at CBk
      clear R3 hcc
      generalize f[k] = x at *
      generalize addW s1 (f.take k) = sk at *
      go_wp2_with (go_at_call 45; ((refine CBk.out.mono ?_); rintro e w4 ⟨rfl, r4, k4⟩; have W4 := Lib.hid r4; have K4 := Lib.hid (K3.out.trans k4); clear r4 k4))
      go_roundw
      case rel => exact ⟨k + 1, by go_num, by omega, Lib.hid (by rw [HN.out]; exact W4.out), K4.out⟩
      case measure => (simp [intOf]; try omega)
    · obtain rfl : k = f.length := by omega
      have i1 : ¬ (f.length : Int) < (f.length : Int) := by omega
      rw [List.take_length] at hW
      go_wp2
      go_end0
      exact ⟨rfl, hW.out, K3.out⟩
end Go.Proofs.Ytkgjgbenfpkekaa.JX
