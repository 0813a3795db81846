/-
  WALKS: add of a writer, where there is room.
-/
import Derived.Test.YtjocbokfdfdkeaaGreatLZYWr
import Derived.Lib.SmallJoins
namespace Go.Proofs.YtjocbokfdfdkeaaGreat.YX
open Go.RowKit HL
open IX (ptr El cellsK cellsK_at cellsK_len OwnK RdK Kept slice_toK slice_fromK)
set_option maxRecDepth 100000
set_option linter.unusedVariables false
set_option linter.unusedSimpArgs false

/-- One byte more. -/
theorem part_next {p : Bs} {m : Nat} (hm : m < p.length) (x : UInt8) : (p.set m x).take (m + 1) = p.take m ++ [x] := by
  rw [List.take_succ_eq_append_getElem (by simpa using hm)]
  congr 1
  · rw [List.take_set_of_le (Nat.le_refl _)]
  · simp
theorem str_app (a b : Bs) : (⟨a.toArray⟩ : ByteArray) ++ ⟨b.toArray⟩ = ⟨(a ++ b).toArray⟩ := by
  apply ByteArray.ext
  simp [ByteArray.data_append]
theorem slice_part (B : Nat) (W : World) : (Instr.sliceAt 116 (.pointer (some ⟨B, 1, none⟩)) none none none).run Tryz.prog W = .ok (.slice (some ⟨B, 1, none⟩) 256 256) W := by
  simp [Instr.sliceAt, go_sem]
set_option maxHeartbeats 8000000 in
theorem add_fit (B : Nat) (l b : Bs) (A : Option Addr) (c : Nat) (w : World) (h : WAt w B (some l)) (hr : RdK u8K w w.heap.size A b) (hA : ∀ a, A = some a → a.block ≠ B) (hl : l.length + b.length ≤ 65536) : Calls Tryz.prog 106 #[ptr B, .slice A b.length c] w fun e w' => e = .returned (.tuple #[]) ∧ WAt w' B (some (l ++ b)) ∧ Kept w w' (· ≠ B) := by
  have HR := Lib.hid hr
  obtain ⟨d, p, m, h1, h2, h3, h4, h5⟩ := h
  have hlen : l.length = d.length + m := by rw [h3, List.length_append, List.length_take, h1]; omega
  have c3 := (h5.at_.c 258).trans (wrC_f _ _ _ h1)
  have c0 := (h5.at_.c 0).trans (wrC_0 _ _ _ _)
  have c1 := (h5.at_.c 257).trans (wrC_m _ _ _ h1)
  have hz : (⟨d.toArray⟩ : ByteArray).size = d.length := by simp [ByteArray.size]
  have e1 : IntKind.i64.wrap ((d.length : Int) + m) = (d.length : Int) + m := wI (by omega) (by omega)
  have e2 : IntKind.i64.wrap ((d.length : Int) + m + b.length) = (d.length : Int) + m + b.length := wI (by omega) (by omega)
  have i1 : ¬ (65536 : Int) < (d.length : Int) + m + b.length := by omega
  have H5 := Lib.hid h5
  have H3 := Lib.hid h3
  have H1 := Lib.hid h1
  clear h5 h3 h1 hr
  go_enter Tryz.func106, Tryz.ntmps106
  go_wp2
  go_region
  go_wp2
  clear c0 c1 c3
  go_loopw [34] (fun iv wr => ∃ (i m2 : Nat) (d2 p2 : Bs), iv = .int .i64 i ∧ i ≤ b.length ∧ m2 ≤ 256 ∧ Hid (p2.length = 256 ∧ l ++ b.take i = d2 ++ p2.take m2) ∧ Hid (AtH wr B 118 (wrC d2 p2 m2 false)) ∧ Kept w wr (· ≠ B)) (fun iv _ => b.length - (intOf iv).toNat)
  case atStart => exact ⟨0, m, d, p, rfl, by omega, h2, Lib.hid ⟨H1.out, by rw [List.take_zero, List.append_nil]; exact H3.out⟩, Lib.hid (show AtH w.drew B _ _ from H5.out), .of_below (bD1_ w)⟩
  case round =>
    obtain ⟨i, m2, d2, p2, rfl, hi, hm2, HP, HW, k1⟩ := hrel
    have K1 := Lib.hid k1
    by_cases hlt : i < b.length
    · have j1 : (i : Int) < (b.length : Int) := by omega
      obtain ⟨b1, off, rfl, hb1, hc⟩ := (rdY HR.out).at_ (by omega)
      have cc := (k1.cell (b := b1) (o := off + i) (sp := none) hb1 (hA _ rfl)).trans (hc i _ (List.getElem?_eq_getElem hlt))
      have hne : b1 ≠ B := hA _ rfl
      have hwA := HW.out.at_
      have c0 := (hwA.c 0).trans (wrC_0 _ _ _ _)
      have c1 := (hwA.c 257).trans (wrC_m _ _ _ HP.out.1)
      have f0 := hwA.f 0
      have f1 := hwA.f 257
      clear hc k1
      obtain ⟨x, hx⟩ : ∃ x, b[i] = x := ⟨_, rfl⟩
      rw [hx] at cc
      have HX := Lib.hid hx
      clear hx
      by_cases hm : m2 < 256
      · have cm := (hwA.c (1 + m2)).trans (wrC_p d2 m2 false (List.getElem?_eq_getElem (by rw [HP.out.1]; exact hm)))
        have fm := hwA.f (1 + m2)
        have j2 : ¬ ((m2 : Int) = 256) := by omega
        have j3 : ((m2 : Int) == 256) = false := by simpa using j2
        have j4 : (m2 : Int) < 256 := by omega
        clear hwA
        go_wp2
        go_region
        go_wp2
        refine ⟨⟨i + 1, m2 + 1, d2, p2.set m2 x, by simp, by omega, by omega, Lib.hid ⟨by rw [List.length_set]; exact HP.out.1, ?_⟩, Lib.hid ?_, ?_⟩, by simp [intOf]; omega⟩
        · rw [part_next (by rw [HP.out.1]; exact hm), List.take_succ_eq_append_getElem hlt, ← List.append_assoc, HP.out.2, List.append_assoc, HX.out]
        · have q := (HW.out.set (1 + m2) (YX.u8 x)).set 257 (.int .i64 ((m2 + 1 : Nat) : Int))
          rw [wrC_setp d2 m2 false (by rw [HP.out.1]; exact hm), wrC_setm _ _ _ (by rw [List.length_set]; exact HP.out.1)] at q
          exact q
        · exact (kset2 (kset2 K1.out _) _).drew 1
      · have hm256 : m2 = 256 := by omega
        subst hm256
        have hpt : RdK u8K wr (B + 1) (some ⟨B, 1, none⟩) p2 := rdY_back (.inr ⟨B, 1, rfl, by omega, fun j y hy => (hwA.c (1 + j)).trans (wrC_p d2 256 false hy)⟩)
        have cm := (hwA.c 1).trans (wrC_p d2 256 false (k := 0) (List.getElem?_eq_getElem (by rw [HP.out.1]; omega)))
        have fm := hwA.f 1
        have hcv : (convert 39 9 (.slice (some ⟨B, 1, none⟩) 256 256)).run Tryz.prog wr.drew = .ok (str p2) wr.drew := conv_str (w := wr.drew) (IX.RdK.below hpt ⟨rfl, rfl, rfl, Nat.le_refl _, fun _ _ => rfl⟩) HP.out.1
        have hsl := slice_part B
        have hsap := str_app d2 p2
        have hsum : ¬ 9223372036854775807 < d2.length + p2.length := (by have q := congrArg List.length HP.out.2; rw [List.length_append, List.length_append, List.length_take, List.length_take, HP.out.1] at q; rw [HP.out.1]; omega)
        clear hwA hpt
        go_wp2
        go_region
        go_wp2
        go_region
        go_wp2
        refine ⟨⟨i + 1, 1, d2 ++ p2, p2.set 0 x, by simp, by omega, by omega, Lib.hid ⟨by rw [List.length_set]; exact HP.out.1, ?_⟩, Lib.hid ?_, ?_⟩, by simp [intOf]; omega⟩
        · have q := HP.out.2
          rw [List.take_of_length_le (l := p2) (by rw [HP.out.1]; omega)] at q
          rw [part_next (m := 0) (by rw [HP.out.1]; omega), List.take_succ_eq_append_getElem hlt, ← List.append_assoc, q, HX.out]; simp
        · have q := (((HW.out.set 0 (str (d2 ++ p2))).set 257 (.int .i64 ((0 : Nat) : Int))).set (1 + 0) (YX.u8 x)).set 257 (.int .i64 ((1 : Nat) : Int))
          rw [wrC_set0, wrC_setm _ _ _ HP.out.1, wrC_setp _ _ _ (by rw [HP.out.1]; omega), wrC_setm _ _ _ (by rw [List.length_set]; exact HP.out.1)] at q
          exact q
        · exact ((kset2 (kset2 (kset2 (kset2 K1.out _) _) _) _).drew 1).drew 1
    · have hie : i = b.length := by omega
      subst hie
      have j1 : ¬ (b.length : Int) < (b.length : Int) := by omega
      go_wp2
      first | go_end0 | (refine bodyPost_ret (results_none rfl _ _ _) rfl ?_)
      exact ⟨rfl, ⟨d2, p2, m2, HP.out.1, hm2, by have := HP.out.2; rwa [List.take_length] at this, by rw [List.length_append]; omega, HW.out⟩, K1.out⟩
end Go.Proofs.YtjocbokfdfdkeaaGreat.YX
