/-
  WALKS: awake: the chapter's examples.
-/
import Derived.Test.YtfofpbdccgcocaaYSame
namespace Go.Proofs.Ytfofpbdccgcocaa.YX
open Go.RowKit HL
open IX (ptr El cellsK cellsK_at cellsK_len OwnK RdK Kept slice_toK slice_fromK)
set_option maxRecDepth 100000
set_option linter.unusedVariables false
set_option linter.unusedSimpArgs false

def exL : List Th := [⟨2, 300, []⟩, ⟨3, 18446744073709551613, []⟩, ⟨4, 0, [97, 98]⟩]
theorem numB_ex : numB 300 = [172, 2] ∧ numB 5 = [5] ∧ numB 2 = [2] := by
  refine ⟨?_, numB_lo (by decide), numB_lo (by decide)⟩
  rw [numB_hi (by decide), numB_lo (by decide)]; rfl
theorem exL_w : wrL (some []) exL = some [172, 2, 5, 2, 97, 98] := by
  have h : enc exL = [172, 2, 5, 2, 97, 98] := by
    have e1 : thB ⟨2, 300, []⟩ = numB 300 := by simp [thB]
    have e2 : thB ⟨3, 18446744073709551613, []⟩ = numB 5 := by
      have : intN (toI 18446744073709551613) = 5 := by decide
      simp [thB, this]
    have e3 : thB ⟨4, 0, [97, 98]⟩ = numB 2 ++ [97, 98] := by simp [thB]
    simp only [enc, exL, List.flatMap_cons, List.flatMap_nil, e1, e2, e3, numB_ex.1, numB_ex.2.1, numB_ex.2.2]
    rfl
  have := wrL_ok (l := exL) (a := []) (by intro x hx; simp [exL] at hx; rcases hx with rfl | rfl | rfl <;> simp) (by rw [List.nil_append, h]; decide)
  rw [this, List.nil_append, h]
theorem exL_ok : ∀ x ∈ exL, ThOk x := by
  intro x hx
  simp [exL] at hx
  rcases hx with rfl | rfl | rfl <;> exact ⟨by simp, by simp⟩
theorem exL_s : ∀ x ∈ exL, x.s.length ≤ 900000 := by
  intro x hx
  simp [exL] at hx
  rcases hx with rfl | rfl | rfl <;> simp
abbrev exC : Array Value := #[.int .u8 2, .int .u64 300, .string ⟨#[]⟩, .int .u8 3, .int .u64 18446744073709551613, .string ⟨#[]⟩, .int .u8 4, .int .u64 0, .string ⟨#[97, 98]⟩]
theorem exR (w : World) (T : TypeId) : RdT (w.alloc (.cells exC T)) (w.alloc (.cells exC T)).heap.size (some ⟨w.heap.size, 0, none⟩) exL := by
  have m := (AtC.new w exC T).c
  refine .inr ⟨w.heap.size, 0, rfl, by simp, fun j x hx => ?_⟩
  match j, hx with
  | 0, hx => simp [exL] at hx; subst hx; exact ⟨m 0, m 1, m 2⟩
  | 1, hx => simp [exL] at hx; subst hx; exact ⟨m 3, m 4, m 5⟩
  | 2, hx => simp [exL] at hx; subst hx; exact ⟨m 6, m 7, m 8⟩
  | j + 3, hx => simp [exL] at hx
theorem rdU_bad : rdU [128, 0] = none := by decide
theorem rdU_ex : rdU [172, 2, 5] = some (300, [5]) := by decide
theorem rdI_ex : rdI [5] = some (-3, []) := by decide
theorem rd_lit2 (w : World) : RdK u8K (w.alloc (.cells #[.int .u8 128, .int .u8 0] 5)) (w.alloc (.cells #[.int .u8 128, .int .u8 0] 5)).heap.size (some ⟨w.heap.size, 0, none⟩) [128, 0] := by
  have m := (AtC.new w #[.int .u8 128, .int .u8 0] 5).c
  refine rdY_back (.inr ⟨w.heap.size, 0, rfl, by simp, fun j x hx => ?_⟩)
  match j, hx with
  | 0, hx => simp at hx; subst hx; exact m 0
  | 1, hx => simp at hx; subst hx; exact m 1
  | j + 2, hx => simp at hx
theorem rd_lit3 (w : World) : RdK u8K (w.alloc (.cells #[.int .u8 172, .int .u8 2, .int .u8 5] 5)) (w.alloc (.cells #[.int .u8 172, .int .u8 2, .int .u8 5] 5)).heap.size (some ⟨w.heap.size, 0, none⟩) [172, 2, 5] := by
  have m := (AtC.new w #[.int .u8 172, .int .u8 2, .int .u8 5] 5).c
  refine rdY_back (.inr ⟨w.heap.size, 0, rfl, by simp, fun j x hx => ?_⟩)
  match j, hx with
  | 0, hx => simp at hx; subst hx; exact m 0
  | 1, hx => simp at hx; subst hx; exact m 1
  | 2, hx => simp at hx; subst hx; exact m 2
  | j + 3, hx => simp at hx
set_option maxHeartbeats 8000000 in
theorem awake_any (w : World) : Calls Try.prog 24 #[] w fun e w' => e = .returned (.bool true) ∧ Below w.heap.size w w' := by
  have hb0 : Below w.heap.size w w := Below.refl _ _
  have C1 : Hid (Calls Try.prog 25 #[.slice (some ⟨w.heap.size, 0, none⟩) 3 3] (w.alloc (.cells exC 32)) fun e w' => Told (w.alloc (.cells exC 32)) (some [172, 2, 5, 2, 97, 98]) e w') := Lib.hid (by
    have := wrote_any exL exL_ok exL_s (by decide) (some ⟨w.heap.size, 0, none⟩) 3 _ (exR w 32)
    rw [exL_w] at this
    exact this)
  have C2 : Hid (∀ W : World, Calls Try.prog 13 #[.slice (some ⟨W.heap.size, 0, none⟩) 2 2] (W.alloc (.cells #[.int .u8 128, .int .u8 0] 5)) fun e w' => ∃ B, e = .returned (ptr B) ∧ RAt w' B (some [128, 0]) ∧ (W.alloc (.cells #[.int .u8 128, .int .u8 0] 5)).heap.size ≤ B ∧ Below (W.alloc (.cells #[.int .u8 128, .int .u8 0] 5)).heap.size (W.alloc (.cells #[.int .u8 128, .int .u8 0] 5)) w') := Lib.hid (fun W => read_any _ 2 [128, 0] _ (rd_lit2 W) (by decide) (fun q => by cases q))
  have C3 : Hid (∀ W : World, Calls Try.prog 13 #[.slice (some ⟨W.heap.size, 0, none⟩) 3 3] (W.alloc (.cells #[.int .u8 172, .int .u8 2, .int .u8 5] 5)) fun e w' => ∃ B, e = .returned (ptr B) ∧ RAt w' B (some [172, 2, 5]) ∧ (W.alloc (.cells #[.int .u8 172, .int .u8 2, .int .u8 5] 5)).heap.size ≤ B ∧ Below (W.alloc (.cells #[.int .u8 172, .int .u8 2, .int .u8 5] 5)).heap.size (W.alloc (.cells #[.int .u8 172, .int .u8 2, .int .u8 5] 5)) w') := Lib.hid (fun W => read_any _ 3 [172, 2, 5] _ (rd_lit3 W) (by decide) (fun q => by cases q))
  have D1 : Hid (∀ (B : Nat) (W : World), RAt W B (some [128, 0]) → Calls Try.prog 21 #[ptr B] W fun e w' => e = .returned (.int .u64 0) ∧ RAt w' B none ∧ Kept W w' (· ≠ B)) := Lib.hid (fun B W q => by
    have := unsigned_any2 B _ W q
    rw [(told_none 0 rdU_bad).1, (told_none (0 : Nat) rdU_bad).2] at this
    exact this)
  have D2 : Hid (∀ (B : Nat) (W : World), RAt W B (some [172, 2, 5]) → Calls Try.prog 21 #[ptr B] W fun e w' => e = .returned (.int .u64 300) ∧ RAt w' B (some [5]) ∧ Kept W w' (· ≠ B)) := Lib.hid (fun B W q => by
    have := unsigned_any2 B _ W q
    rw [(told_some 0 rdU_ex).1, (told_some (0 : Nat) rdU_ex).2] at this
    exact this)
  have D3 : Hid (∀ (B : Nat) (W : World), RAt W B (some [5]) → Calls Try.prog 22 #[ptr B] W fun e w' => e = .returned (.int .i64 (-3)) ∧ RAt w' B (some []) ∧ Kept W w' (· ≠ B)) := Lib.hid (fun B W q => by
    have := signed_any2 B _ W q
    rw [(told_some 0 rdI_ex).1, (told_some (0 : Int) rdI_ex).2] at this
    exact this)
  have F1 : Hid (∀ (B : Nat) (W : World), RAt W B none → Calls Try.prog 15 #[ptr B] W fun e w' => e = .returned (.bool true) ∧ W = w') := Lib.hid (fun B W q => failed_any B none W q)
  have E1 : Hid (∀ (B : Nat) (W : World), RAt W B none → Calls Try.prog 17 #[ptr B] W fun e w' => e = .returned (.int .i64 120) ∧ W = w') := Lib.hid (fun B W q => end_any B none W q)
  have E2 : Hid (∀ (B : Nat) (W : World), RAt W B (some []) → Calls Try.prog 17 #[ptr B] W fun e w' => e = .returned (.int .i64 0) ∧ W = w') := Lib.hid (fun B W q => end_any B (some []) W q)
  go_enter Try.func24, Try.ntmps24
  go_wp2_with (go_at_call 25; ((refine C1.out.mono ?_); rintro e w1 ⟨k1, v, rfl, g1⟩; obtain ⟨g, c, rfl, r1, _, _, hg, _⟩ := g1.rd; have HG := Lib.hid hg; have K1 := Lib.hid (bThen (bAl hb0 _) k1); have R1 := Lib.hid r1; clear k1 g1 r1 hg))
  go_wp2_with (go_at_call 13; ((with_reducible refine (C2.out _).mono ?_); rintro e w2 ⟨B, rfl, h2, hB, k2⟩; have K2 := Lib.hid (bThen (bThen K1.out (bAl (Below.refl _ _) _)) k2); have Q2 := Lib.hid (show w1.heap.size ≤ B from Nat.le_trans (by simp) hB); have R2 := Lib.hid (R1.out.below (w' := w2) (bThen (bAl (Below.refl w1.heap.size w1) _) k2)); have S12 := Lib.hid (bThen (bAl (Below.refl w1.heap.size w1) _) k2).size; have H2 := Lib.hid h2; clear h2 k2 hB))
  go_wp2_with (go_at_call 13; ((with_reducible refine (C3.out _).mono ?_); rintro e w3 ⟨X, rfl, h3, hX, k3⟩; have b3 := bThen (bAl (Below.refl w2.heap.size w2) _) k3; have K3 := Lib.hid (bThen K2.out b3); have Q3 := Lib.hid (show w2.heap.size ≤ X from Nat.le_trans (by simp) hX); have H23 := Lib.hid (H2.out.below b3); have R3 := Lib.hid (R2.out.below (b3.mono S12.out)); have H3 := Lib.hid h3; clear h3 k3 hX b3))
  have hBX : B ≠ X := by have := H2.out.lt; have := Q3.out; omega
  have HBX := Lib.hid hBX
  clear hBX
  go_wp2_with (go_at_call 21; ((with_reducible refine (D1.out _ _ H23.out).mono ?_); rintro e w4 ⟨rfl, h4, k4⟩; have H4 := Lib.hid h4; have H34 := Lib.hid (H3.out.aside H23.out HBX.out.symm k4); have K4 := Lib.hid k4; clear h4 k4))
  go_wp2_with (go_at_call 21; ((with_reducible refine (D2.out _ _ H34.out).mono ?_); rintro e w5 ⟨rfl, h5, k5⟩; have H5 := Lib.hid h5; have H45 := Lib.hid (H4.out.aside H34.out HBX.out k5); have K5 := Lib.hid k5; clear h5 k5))
  go_wp2_with (go_at_call 22; ((with_reducible refine (D3.out _ _ H5.out).mono ?_); rintro e w6 ⟨rfl, h6, k6⟩; have H6 := Lib.hid h6; have H56 := Lib.hid (H45.out.aside H5.out HBX.out k6); have K6 := Lib.hid k6; clear h6 k6))
  have hgB : g ≠ B := by have := HG.out; have := Q2.out; omega
  have hgX : g ≠ X := by have := HG.out; have := Q3.out; have := S12.out; omega
  have s3 : w1.heap.size ≤ w3.heap.size := Nat.le_trans S12.out (by have := K3.out.size; have := H3.out.lt; have := Q3.out; omega)
  have r4 := IX.RdK.kept R3.out K4.out s3 (fun a q => by cases q; exact hgB)
  have s4 := Nat.le_trans s3 K4.out.size
  have r5 := IX.RdK.kept r4 K5.out s4 (fun a q => by cases q; exact hgX)
  have s5 := Nat.le_trans s4 K5.out.size
  have r6 := IX.RdK.kept r5 K6.out s5 (fun a q => by cases q; exact hgX)
  have hcv : (convert 28 9 (.slice (some ⟨g, 0, none⟩) 6 c)).run Try.prog w6 = .ok (str [172, 2, 5, 2, 97, 98]) w6 := conv_str r6 rfl
  have BE : Hid (Below w.heap.size w w6) := Lib.hid (by
    have k46 : Kept w3 w6 (fun b => b ≠ B ∧ b ≠ X) := ((K4.out.weak (fun b q => q.1)).trans (K5.out.weak (fun b q => q.2))).trans (K6.out.weak (fun b q => q.2))
    have hs : w.heap.size ≤ w3.heap.size := K3.out.size
    have hs1 : w.heap.size ≤ w1.heap.size := K1.out.size
    exact K3.out.trans (k46.below hs (fun b hb => ⟨by have := Q2.out; omega, by have := Q3.out; have := S12.out; omega⟩)))
  clear r4 r5 r6
  rw [hcv]
  go_wp2_with (first
    | (go_at_call 15; ((with_reducible refine (F1.out _ _ H56.out).mono ?_); rintro e w7 ⟨rfl, rfl⟩))
    | (go_at_call_of 17 (ptr B); ((with_reducible refine (E1.out _ _ H56.out).mono ?_); rintro e w8 ⟨rfl, rfl⟩))
    | (go_at_call_of 17 (ptr X); ((with_reducible refine (E2.out _ _ H6.out).mono ?_); rintro e w9 ⟨rfl, rfl⟩)))
  go_ret
  exact ⟨by first | rfl | simp, BE.out⟩
end Go.Proofs.Ytfofpbdccgcocaa.YX
