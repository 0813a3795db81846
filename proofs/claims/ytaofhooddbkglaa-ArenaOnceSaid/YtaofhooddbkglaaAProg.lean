/-
  WALKS: made, exists, Taken, Age, Size, Many of an arena; math/bits.OnesCount64.
-/
import Derived.Test.YtaofhooddbkglaaAKit
import Derived.BigQuiet
import Derived.LaidEqlPtr
import Derived.Laws.Bits128
namespace Go.Proofs.Ytaofhooddbkglaa
open Go.RowKit
set_option maxRecDepth 100000
set_option linter.unusedVariables false
set_option linter.unusedSimpArgs false

abbrev ptr (B : Nat) : Value := .pointer (some ⟨B, 0, none⟩)
structure ArOk (s : Ar) : Prop where
  pos : 1 ≤ s.tk.length
  le : s.tk.length ≤ 64
  len : s.ag.length = s.tk.length
theorem arena_info : Try.prog.info? 51 = some (Try.prog.info? 51).get! := by kernel_rfl
theorem made_any (B : Nat) (s : Ar) (w : World) (hA : AtC w B (arC B s)) : Calls Try.prog 28 #[ptr B] w fun e w' => e = .returned (.bool true) ∧ w = w' := by
  have c0 := (hA.c 0).trans (arC_0 B s)
  have HE := fun W => run_eql_ptr_same (P := Try.prog) W (tp := 23) ⟨B, 0, none⟩ Try.underlying23 arena_info
  clear hA
  go_enter Try.func28, Try.ntmps28
  go_wp2
  go_ret
  exact ⟨rfl, rfl⟩
/-- Is it a slot of the arena? -/
def exB (s : Ar) (k : Int) : Bool := decide (0 ≤ k) && decide (k < s.tk.length)
theorem exists_any (B : Nat) (s : Ar) (k : Int) (w : World) (hA : AtC w B (arC B s)) : Calls Try.prog 29 #[ptr B, .int .i64 k] w fun e w' => e = .returned (.bool (exB s k)) ∧ w = w' := by
  have c1 := (hA.c 1).trans (arC_1 B s)
  have C := Lib.hid (made_any B s w hA)
  have HE : Hid (exB s k = (decide (0 ≤ k) && decide (k < s.tk.length))) := Lib.hid rfl
  clear hA
  generalize exB s k = b at *
  by_cases h0 : 0 ≤ k
  · go_enter Try.func29, Try.ntmps29
    go_wp2_with (go_at_call 28; ((with_reducible refine C.out.mono ?_); rintro e w1 ⟨rfl, rfl⟩))
    go_ret
    exact ⟨by rw [HE.out]; simp [h0], rfl⟩
  · go_enter Try.func29, Try.ntmps29
    go_wp2_with (go_at_call 28; ((with_reducible refine C.out.mono ?_); rintro e w1 ⟨rfl, rfl⟩))
    go_ret
    exact ⟨by rw [HE.out, decide_eq_false (by omega)]; rfl, rfl⟩
def takenB (s : Ar) (k : Int) : Bool := exB s k && s.tk.getD k.toNat false
theorem taken_any (B : Nat) (s : Ar) (hs : ArOk s) (k : Int) (w : World) (hA : AtC w B (arC B s)) : Calls Try.prog 15 #[ptr B, .int .i64 k] w fun e w' => e = .returned (.bool (takenB s k)) ∧ Below w.heap.size w w' := by
  have C := Lib.hid (fun W q => exists_any B s k W (hA.then q))
  have c2 := (hA.c 2).trans (arC_2 B s)
  cases h : exB s k with
  | false =>
    have HT := Lib.hid (show takenB s k = false by simp [takenB, h])
    generalize takenB s k = b at *
    rw [h] at C
    clear hA hs h
    go_enter Try.func15, Try.ntmps15
    go_wp2
    go_quiet ((go_at_call 29; exact Calls.quiet_of_same ((C.out _ (bDrew (Below.refl _ _) _)).mono fun _ _ h => ⟨h.1, h.2.symm⟩)))
    go_wp2
    go_ret
    exact ⟨by rw [HT.out]; rfl, bDrew (Below.refl _ _) _⟩
  | true =>
    have hk : 0 ≤ k ∧ k < s.tk.length := by simpa [exB] using h
    obtain ⟨n, rfl⟩ := Int.eq_ofNat_of_zero_le hk.1
    have hn : n < 64 := by have := hs.le; omega
    have HT := Lib.hid (show takenB s n = s.tk.getD n false by simp [takenB, h])
    have HB := Lib.hid (bit_and s.tk n hs.le hn)
    generalize takenB s n = b at *
    rw [h] at C
    clear hA h
    go_enter Try.func15, Try.ntmps15
    go_wp2
    go_quiet ((go_at_call 29; exact Calls.quiet_of_same ((C.out _ (bDrew (Below.refl _ _) _)).mono fun _ _ h => ⟨h.1, h.2.symm⟩)))
    go_wp2
    go_ret
    exact ⟨by rw [HT.out, ← HB.out, ← wrap_pow hn]; rfl, bDrew (Below.refl _ _) _⟩
def ageN (s : Ar) (k : Int) : Nat := if exB s k then s.ag.getD k.toNat 0 else 0
theorem age_any (B : Nat) (s : Ar) (hs : ArOk s) (k : Int) (w : World) (hA : AtC w B (arC B s)) : Calls Try.prog 17 #[ptr B, .int .i64 k] w fun e w' => e = .returned (.int .i64 (ageN s k)) ∧ w = w' := by
  have C := Lib.hid (exists_any B s k w hA)
  cases h : exB s k with
  | false =>
    have HT := Lib.hid (show ageN s k = 0 by simp [ageN, h])
    generalize ageN s k = b at *
    rw [h] at C
    clear hA hs h
    go_enter Try.func17, Try.ntmps17
    go_wp2_with (go_at_call 29; ((with_reducible refine C.out.mono ?_); rintro e w1 ⟨rfl, rfl⟩))
    go_ret
    exact ⟨by rw [HT.out]; rfl, rfl⟩
  | true =>
    have hk : 0 ≤ k ∧ k < s.tk.length := by simpa [exB] using h
    obtain ⟨n, rfl⟩ := Int.eq_ofNat_of_zero_le hk.1
    have hn : n < 64 := by have := hs.le; omega
    have i1 : (n : Int) < 64 := by omega
    have HT := Lib.hid (show ageN s n = s.ag.getD n 0 by simp [ageN, h])
    have c3 := (hA.c (3 + n)).trans (arC_3 B s hn)
    generalize ageN s n = b at *
    rw [h] at C
    clear hA h
    go_enter Try.func17, Try.ntmps17
    go_wp2_with (go_at_call 29; ((with_reducible refine C.out.mono ?_); rintro e w1 ⟨rfl, rfl⟩))
    go_ret
    exact ⟨by rw [HT.out]; rfl, rfl⟩
theorem size_any (B : Nat) (s : Ar) (w : World) (hA : AtC w B (arC B s)) : Calls Try.prog 21 #[ptr B] w fun e w' => e = .returned (.int .i64 s.tk.length) ∧ w = w' := by
  have c1 := (hA.c 1).trans (arC_1 B s)
  have C := Lib.hid (made_any B s w hA)
  clear hA
  go_enter Try.func21, Try.ntmps21
  go_wp2_with (go_at_call 28; ((with_reducible refine C.out.mono ?_); rintro e w1 ⟨rfl, rfl⟩))
  go_ret
  exact ⟨rfl, rfl⟩
theorem wrapU {a : Nat} (h : a < 18446744073709551616) : IntKind.u64.wrap (a : Int) = (a : Int) := by
  simp [IntKind.wrap, IntKind.bits, IntKind.signed]; omega
theorem S1_le (x : Nat) : S1 8 x ≤ 12297829382473034410 := by
  unfold S1; have h1 := @Nat.and_le_right (x / 2) (msk 85 8); have h2 := @Nat.and_le_right x (msk 85 8); rw [msk85] at *; omega
theorem S2_le (x : Nat) : S2 8 x ≤ 7378697629483820646 := by
  unfold S2; have h1 := @Nat.and_le_right (x / 4) (msk 51 8); have h2 := @Nat.and_le_right x (msk 51 8); rw [msk51] at *; omega
theorem ret_i {k : IntKind} {a b : Int} (h : a = b) : Ending.returned (.int k a) = .returned (.int k b) := by rw [h]
theorem ones_e1 (x : Nat) (h : x < 18446744073709551616) : IntKind.u64.wrap (bits BinOp.and IntKind.u64 ((x : Int) / 2) 6148914691236517205 + bits BinOp.and IntKind.u64 (x : Int) 6148914691236517205) = (S1 8 x : Int) := by
  have h1 := u64_and_nat (x / 2) 6148914691236517205 (by omega) (by omega)
  have h2 := u64_and_nat x 6148914691236517205 h (by omega)
  have hs := S1_le x
  rw [show ((x : Int) / 2) = ((x / 2 : Nat) : Int) by simp]
  rw [show (6148914691236517205 : Int) = ((6148914691236517205 : Nat) : Int) from rfl, h1, h2, ← Int.natCast_add]
  have e : (x / 2 &&& 6148914691236517205) + (x &&& 6148914691236517205) = S1 8 x := by unfold S1; rw [msk85]
  rw [e, wrapU (by omega)]
theorem ones_e2 (x : Nat) (h : x < 18446744073709551616) : IntKind.u64.wrap (bits BinOp.and IntKind.u64 ((x : Int) / 4) 3689348814741910323 + bits BinOp.and IntKind.u64 (x : Int) 3689348814741910323) = (S2 8 x : Int) := by
  have h1 := u64_and_nat (x / 4) 3689348814741910323 (by omega) (by omega)
  have h2 := u64_and_nat x 3689348814741910323 h (by omega)
  have hs := S2_le x
  rw [show ((x : Int) / 4) = ((x / 4 : Nat) : Int) by simp]
  rw [show (3689348814741910323 : Int) = ((3689348814741910323 : Nat) : Int) from rfl, h1, h2, ← Int.natCast_add]
  have e : (x / 4 &&& 3689348814741910323) + (x &&& 3689348814741910323) = S2 8 x := by unfold S2; rw [msk51]
  rw [e, wrapU (by omega)]
theorem ones_e3 (x : Nat) (h : x ≤ 7378697629483820646) : bits BinOp.and IntKind.u64 (IntKind.u64.wrap ((x : Int) / 16 + (x : Int))) 1085102592571150095 = (S3 8 x : Int) := by
  rw [show ((x : Int) / 16 + (x : Int)) = ((x / 16 + x : Nat) : Int) by simp, wrapU (by omega)]
  have h1 := u64_and_nat (x / 16 + x) 1085102592571150095 (by omega) (by omega)
  rw [show (1085102592571150095 : Int) = ((1085102592571150095 : Nat) : Int) from rfl, h1]
  unfold S3; rw [msk15]
theorem ones_e4 (x : Nat) (h : x ≤ 578721382704613384) : bits BinOp.and IntKind.i64 (wrap64 (IntKind.u64.wrap (IntKind.u64.wrap (IntKind.u64.wrap ((x : Int) + (x : Int) / 256) + IntKind.u64.wrap ((x : Int) + (x : Int) / 256) / 65536) + IntKind.u64.wrap (IntKind.u64.wrap ((x : Int) + (x : Int) / 256) + IntKind.u64.wrap ((x : Int) + (x : Int) / 256) / 65536) / 4294967296))) 127 = (fold3 x : Int) := by
  rw [show ((x : Int) + (x : Int) / 256) = ((x + x / 256 : Nat) : Int) by simp, wrapU (by omega)]
  unfold fold3
  generalize hv : x + x / 256 = v
  simp only []
  rw [show ((v : Int) + (v : Int) / 65536) = ((v + v / 65536 : Nat) : Int) by simp, wrapU (by omega)]
  generalize hu : v + v / 65536 = u
  rw [show ((u : Int) + (u : Int) / 4294967296) = ((u + u / 4294967296 : Nat) : Int) by simp, wrapU (by omega)]
  rw [i64_and127]
  generalize ht : u + u / 4294967296 = t
  rw [show wrap64 (t : Int) = (t : Int) by unfold wrap64; omega]
  simp
set_option maxHeartbeats 2000000 in
theorem onesCount_any (x : Nat) (w : World) (h : x < 18446744073709551616) : Calls Try.prog 30 #[.int .u64 (x : Int)] w fun e w' => e = .returned (.int .i64 (ones 64 x : Int)) ∧ w = w' := by
  have HE := Lib.hid (show _ ∧ _ ∧ _ ∧ _ ∧ _ from ⟨ones_e1 x h, ones_e2 (S1 8 x) (by have := S1_le x; omega), ones_e3 (S2 8 (S1 8 x)) (S2_le _), ones_e4 (S3 8 (S2 8 (S1 8 x))) (P3_ones x h).2, (P3_ones x h).1⟩)
  clear h
  go_enter Try.func30, Try.ntmps30
  go_wp2
  go_ret
  refine ⟨ret_i ?_, rfl⟩
  obtain ⟨e1, e2, e3, e4, e5⟩ := HE.out
  rw [e1, e2, e3, e4]
  rw [← e5]; rfl
theorem many_any (B : Nat) (s : Ar) (hs : ArOk s) (w : World) (hA : AtC w B (arC B s)) : Calls Try.prog 19 #[ptr B] w fun e w' => e = .returned (.int .i64 (many s.tk : Int)) ∧ w = w' := by
  have c2 := (hA.c 2).trans (arC_2 B s)
  have C := Lib.hid (made_any B s w hA)
  have HM := Lib.hid (ones_bits s.tk 64 hs.le)
  have CO := Lib.hid (onesCount_any (bitsN s.tk) w (bitsN_le hs.le))
  clear hA
  generalize ones 64 (bitsN s.tk) = m at *
  go_enter Try.func19, Try.ntmps19
  go_wp2_with (first
    | (go_at_call 28; ((with_reducible refine C.out.mono ?_); rintro e w1 ⟨rfl, rfl⟩))
    | (go_at_call 30; ((with_reducible refine CO.out.mono ?_); rintro e w1 ⟨rfl, rfl⟩)))
  go_ret
  exact ⟨by rw [← HM.out]; rfl, rfl⟩
end Go.Proofs.Ytaofhooddbkglaa
