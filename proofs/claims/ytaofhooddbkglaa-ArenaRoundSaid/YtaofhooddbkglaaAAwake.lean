/-
  WALKS: takes, awake; Taken as a quiet call.
-/
import Derived.Test.YtaofhooddbkglaaAPlays
namespace Go.Proofs.Ytaofhooddbkglaa
open Go.RowKit
set_option maxRecDepth 100000
set_option linter.unusedVariables false
set_option linter.unusedSimpArgs false

theorem taken_q (B : Nat) (s : Ar) (hs : ArOk s) (k : Int) (w : World) (hA : AtC w B (arC B s)) : Calls Try.prog 15 #[ptr B, .int .i64 k] w fun e w' => e = .returned (.bool (takenB s k)) ∧ ∃ n, w' = w.drewN n := by
  have C := Lib.hid (fun W q => exists_any B s k W (hA.then q))
  have c2 := (hA.c 2).trans (arC_2 B s)
  cases h : exB s k with
  | false =>
    have HT := Lib.hid (show takenB s k = false by simp [takenB, h])
    generalize takenB s k = b at *
    rw [h] at C
    clear hA hs h
    go_enter Try.func15, Try.ntmps15
    go_wp2
    go_quiet ((go_at_call 29; exact Calls.quiet_of_same ((C.out _ (bDrew (Below.refl _ _) _)).mono fun _ _ h => ⟨h.1, h.2.symm⟩)))
    go_wp2
    go_ret
    exact ⟨by rw [HT.out]; rfl, _, rfl⟩
  | true =>
    have hk : 0 ≤ k ∧ k < s.tk.length := by simpa [exB] using h
    obtain ⟨n, rfl⟩ := Int.eq_ofNat_of_zero_le hk.1
    have hn : n < 64 := by have := hs.le; omega
    have HT := Lib.hid (show takenB s n = s.tk.getD n false by simp [takenB, h])
    have HB := Lib.hid (bit_and s.tk n hs.le hn)
    generalize takenB s n = b at *
    rw [h] at C
    clear hA h
    go_enter Try.func15, Try.ntmps15
    go_wp2
    go_quiet ((go_at_call 29; exact Calls.quiet_of_same ((C.out _ (bDrew (Below.refl _ _) _)).mono fun _ _ h => ⟨h.1, h.2.symm⟩)))
    go_wp2
    go_ret
    exact ⟨by rw [HT.out, ← HB.out, ← wrap_pow hn]; rfl, _, rfl⟩
theorem takes_is {B : Nat} {s s' : Ar} {x e : Int} (hs : ArOk s) (hg : ∀ i, s.ag.getD i 0 ≤ 1000000) (hx : takeV s = x) (he : takeE s = e) (h2 : takeS s = s') (w : World) (hA : AtC w B (arC B s)) :
    Calls Try.prog 31 #[ptr B, .int .i64 x, .int .i64 e] w fun r w' => r = .returned (.bool true) ∧ AtC w' B (arC B s') ∧ Kept w w' (· ≠ B) := by
  have C := Lib.hid (take_any B s hs hg w hA)
  rw [hx, he, h2] at C
  clear hA hs hg hx he h2
  go_enter Try.func31, Try.ntmps31
  go_wp2_with (go_at_call 13; ((with_reducible refine C.out.mono ?_); rintro e w1 ⟨rfl, a1, k1⟩; have A1 := Lib.hid a1; have K1 := Lib.hid k1; clear a1 k1))
  go_ret
  exact ⟨rfl, A1.out, K1.out⟩
def aw1 : Ar := ⟨[true, false, false], [1, 0, 0]⟩
def aw2 : Ar := ⟨[true, true, false], [1, 1, 0]⟩
def aw3 : Ar := ⟨[true, true, true], [1, 1, 1]⟩
def aw4 : Ar := ⟨[true, false, true], [1, 1, 1]⟩
def aw5 : Ar := ⟨[true, true, true], [1, 2, 1]⟩
theorem aw_ok {s : Ar} (h : s.tk.length = 3 ∧ s.ag.length = 3) : ArOk s := ⟨by omega, by omega, by omega⟩
theorem aw_ag {s : Ar} (h : s.ag.length = 3) (h2 : s.ag.all (· ≤ 2) = true) : ∀ i, s.ag.getD i 0 ≤ 1000000 := by
  intro i
  rw [List.getD_eq_getElem?_getD]
  by_cases hi : i < s.ag.length
  · rw [List.getElem?_eq_getElem hi]
    have := List.all_eq_true.1 h2 _ (List.getElem_mem hi)
    simp at this ⊢; omega
  · rw [List.getElem?_eq_none (by omega)]; simp
theorem give_is {B : Nat} {s s' : Ar} {k e : Int} (hs : ArOk s) (he : giveE s k = e) (h2 : giveS s k = s') (w : World) (hA : AtC w B (arC B s)) : Calls Try.prog 11 #[ptr B, .int .i64 k] w fun r w' => r = .returned (.int .i64 e) ∧ AtC w' B (arC B s') ∧ Kept w w' (· ≠ B) := by
  subst he h2; exact give_any B s hs k w hA
theorem age_is {B : Nat} {s : Ar} {k : Int} {n : Nat} (hs : ArOk s) (he : ageN s k = n) (w : World) (hA : AtC w B (arC B s)) : Calls Try.prog 17 #[ptr B, .int .i64 k] w fun r w' => r = .returned (.int .i64 n) ∧ w = w' := by
  subst he; exact age_any B s hs k w hA
theorem many_is {B : Nat} {s : Ar} {n : Nat} (hs : ArOk s) (he : many s.tk = n) (w : World) (hA : AtC w B (arC B s)) : Calls Try.prog 19 #[ptr B] w fun r w' => r = .returned (.int .i64 n) ∧ w = w' := by
  subst he; exact many_any B s hs w hA
set_option maxHeartbeats 4000000 in
theorem awake_any (w : World) : Calls Try.prog 27 #[] w fun e w' => e = .returned (.bool true) ∧ Below w.heap.size w w' := by
  have C1 : Hid (Calls Try.prog 9 #[.int .i64 3] w fun e w' => e = .returned (.tuple #[ptr w.heap.size, .int .i64 0]) ∧ AtC w' w.heap.size (arC w.heap.size (newS 3)) ∧ Below w.heap.size w w') := Lib.hid (new_yes 3 w (by decide) (by decide))
  have C2 := Lib.hid (fun W => new_no 65 W (by decide))
  have T0 := Lib.hid (fun W => takes_is (B := w.heap.size) (s := newS 3) (s' := aw1) (x := 0) (e := 0) (newS_ok (by decide) (by decide)) (fun i => by rw [newS_ag]; decide) rfl rfl rfl W)
  have T1 := Lib.hid (fun W => takes_is (B := w.heap.size) (s := aw1) (s' := aw2) (x := 1) (e := 0) (aw_ok ⟨rfl, rfl⟩) (aw_ag rfl rfl) rfl rfl rfl W)
  have T2 := Lib.hid (fun W => takes_is (B := w.heap.size) (s := aw2) (s' := aw3) (x := 2) (e := 0) (aw_ok ⟨rfl, rfl⟩) (aw_ag rfl rfl) rfl rfl rfl W)
  have T3 := Lib.hid (fun W => takes_is (B := w.heap.size) (s := aw3) (s' := aw3) (x := 0) (e := 4) (aw_ok ⟨rfl, rfl⟩) (aw_ag rfl rfl) rfl rfl rfl W)
  have G4 := Lib.hid (fun W => give_is (B := w.heap.size) (s := aw3) (s' := aw4) (k := 1) (e := 0) (aw_ok ⟨rfl, rfl⟩) rfl rfl W)
  have G5 := Lib.hid (fun W => give_is (B := w.heap.size) (s := aw4) (s' := aw4) (k := 1) (e := 60) (aw_ok ⟨rfl, rfl⟩) rfl rfl W)
  have T6 := Lib.hid (fun W => takes_is (B := w.heap.size) (s := aw4) (s' := aw5) (x := 1) (e := 0) (aw_ok ⟨rfl, rfl⟩) (aw_ag rfl rfl) rfl rfl rfl W)
  have A7 := Lib.hid (fun W => age_is (B := w.heap.size) (s := aw5) (k := 1) (n := 2) (aw_ok ⟨rfl, rfl⟩) rfl W)
  have M8 := Lib.hid (fun W => many_is (B := w.heap.size) (s := aw5) (n := 3) (aw_ok ⟨rfl, rfl⟩) rfl W)
  have hb : Below w.heap.size w w := Below.refl _ _
  generalize hBe : w.heap.size = B at *
  have K := Lib.hid (show ∀ W W1 : World, Below B w W → Kept W W1 (· ≠ B) → Below B w W1 from fun W W1 h k => h.trans (k.below (by have := h.size; omega) (fun i hi => by omega)))
  have HBe := Lib.hid hBe
  clear hBe
  go_enter Try.func27, Try.ntmps27
  go_wp2_with (first
    | (go_at_call 9; ((with_reducible refine C1.out.mono ?_); rintro e w1 ⟨rfl, a1, k1⟩; have HA1 := Lib.hid a1; have B1 := Lib.hid k1; clear a1 k1 C1))
    | (go_at_call 9; ((with_reducible refine (C2.out _).mono ?_); rintro e w1 ⟨rfl, rfl⟩))
    | (go_at_call 31; ((with_reducible refine (T0.out _ HA1.out).mono ?_); rintro e w2 ⟨rfl, a2, k2⟩; have HA2 := Lib.hid a2; have B2 := Lib.hid (K.out _ _ B1.out k2); clear a2 k2 HA1 B1 T0))
    | (go_at_call 31; ((with_reducible refine (T1.out _ HA2.out).mono ?_); rintro e w3 ⟨rfl, a3, k3⟩; have HA3 := Lib.hid a3; have B3 := Lib.hid (K.out _ _ B2.out k3); clear a3 k3 HA2 B2 T1))
    | (go_at_call 31; ((with_reducible refine (T2.out _ HA3.out).mono ?_); rintro e w4 ⟨rfl, a4, k4⟩; have HA4 := Lib.hid a4; have B4 := Lib.hid (K.out _ _ B3.out k4); clear a4 k4 HA3 B3 T2))
    | (go_at_call 31; ((with_reducible refine (T3.out _ HA4.out).mono ?_); rintro e w5 ⟨rfl, a5, k5⟩; have HA5 := Lib.hid a5; have B5 := Lib.hid (K.out _ _ B4.out k5); clear a5 k5 HA4 B4 T3))
    | (go_at_call 11; ((with_reducible refine (G4.out _ HA5.out).mono ?_); rintro e w6 ⟨rfl, a6, k6⟩; have HA6 := Lib.hid a6; have B6 := Lib.hid (K.out _ _ B5.out k6); clear a6 k6 HA5 B5 G4))
    | (go_at_call 11; ((with_reducible refine (G5.out _ HA6.out).mono ?_); rintro e w7 ⟨rfl, a7, k7⟩; have HA7 := Lib.hid a7; have B7 := Lib.hid (K.out _ _ B6.out k7); clear a7 k7 HA6 B6 G5))
    | (go_at_call 31; ((with_reducible refine (T6.out _ HA7.out).mono ?_); rintro e w8 ⟨rfl, a8, k8⟩; have HA8 := Lib.hid a8; have B8 := Lib.hid (K.out _ _ B7.out k8); clear a8 k8 HA7 B7 T6))
    | (go_at_call 17; ((with_reducible refine (A7.out _ HA8.out).mono ?_); rintro e w9 ⟨rfl, rfl⟩))
    | (go_at_call 19; ((with_reducible refine (M8.out _ HA8.out).mono ?_); rintro e w9 ⟨rfl, rfl⟩)))
  go_ret
  exact ⟨rfl, B8.out⟩
end Go.Proofs.Ytaofhooddbkglaa
