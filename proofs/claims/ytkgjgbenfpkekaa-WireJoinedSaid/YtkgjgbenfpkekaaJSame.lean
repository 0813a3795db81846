/-
  WALK: the document's SameFrames of two rows that are the same.
-/
import Derived.Test.YtkgjgbenfpkekaaJKit
import Derived.BigQuiet
import Derived.Deep.RegionHeld3
namespace Go.Proofs.Ytkgjgbenfpkekaa.JX
open Go.RowKit HL
open IX (ptr El cellsK cellsK_at cellsK_len OwnK RdK Kept)
open YX (numB rdU addW told rest u8K)
set_option maxRecDepth 100000
set_option linter.unusedVariables false
set_option linter.unusedSimpArgs false

set_option maxHeartbeats 4000000 in
theorem sameF_yes (A1 A2 : Option Addr) (c1 c2 m : Nat) (L1 L2 : List Sl3) (l : List Bs) (w : World) (h1 : RdK slK w w.heap.size A1 L1) (f1 : Frs w w.heap.size L1 l) (h2 : RdK slK w w.heap.size A2 L2) (f2 : Frs w w.heap.size L2 l) (hm : l.length = m) (hn : m ≤ 1000000) :
    Calls Try.prog 28 #[.slice A1 m c1, .slice A2 m c2] w fun e w' => e = .returned (.bool true) ∧ Below w.heap.size w w' := by
  subst hm
  have H1 := Lib.hid h1
  have H2 := Lib.hid h2
  have F1 := Lib.hid f1
  have F2 := Lib.hid f2
  clear h1 h2 f1 f2
  go_enter Try.func28, Try.ntmps28
  go_wp2
  go_loopw [5] (fun i wr => ∃ k : Nat, i = .int .i64 k ∧ k ≤ l.length ∧ Below w.heap.size w wr) (fun i _ => l.length - (intOf i).toNat)
  case atStart => exact ⟨0, rfl, Nat.zero_le _, Below.refl _ _⟩
  case round =>
    obtain ⟨k, rfl, hk, hb⟩ := hrel
    have K3 := Lib.hid hb
    by_cases hlt : k < l.length
    · have i1 : (k : Int) < (l.length : Int) := by omega
      obtain ⟨b, off, x, rfl, hbb, hcc, hrr, _, _⟩ := fr_at H1.out F1.out hlt
      obtain ⟨b2, off2, x2, rfl, hbb2, hcc2, hrr2, _, _⟩ := fr_at H2.out F2.out hlt
      have hbn : ∀ n, Below w.heap.size w (wr.drewN n) := fun n => bDrew hb n
      have q1 : ∀ n, (wr.drewN n).cell? ⟨b, off + k, none⟩ = some (.slice x.A l[k].length x.c) := fun n => hcc _ (hbn n)
      have q2 : ∀ n, (wr.drewN n).cell? ⟨b2, off2 + k, none⟩ = some (.slice x2.A l[k].length x2.c) := fun n => hcc2 _ (hbn n)
      have v1 : ∀ n, (convert 26 9 (.slice x.A l[k].length x.c)).run Try.prog (wr.drewN n) = .ok (str l[k]) (wr.drewN n) := fun n => YX.conv_str (hrr _ (hbn n)) rfl
      have v2 : ∀ n, (convert 26 9 (.slice x2.A l[k].length x2.c)).run Try.prog (wr.drewN n) = .ok (str l[k]) (wr.drewN n) := fun n => YX.conv_str (hrr2 _ (hbn n)) rfl
      clear hcc hcc2 hrr hrr2 hbn
      generalize l[k] = f at *
      go_wp2
      go_quiet (fail)
      go_wp2
      go_roundw
      case rel => exact ⟨k + 1, by go_num, by omega, by first | exact bDrew K3.out _ | exact K3.out⟩
      case measure => (simp [intOf]; try omega)
    · obtain rfl : k = l.length := by omega
      have i1 : ¬ (l.length : Int) < (l.length : Int) := by omega
      go_wp2
      go_ret
      exact ⟨rfl, K3.out⟩
end Go.Proofs.Ytkgjgbenfpkekaa.JX
