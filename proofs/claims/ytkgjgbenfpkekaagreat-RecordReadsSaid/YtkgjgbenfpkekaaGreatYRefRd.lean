/-
  WALKS: the document's reader: fail, Byte, Truth, Uint, Int, Text, Done.
-/
import Derived.Test.YtkgjgbenfpkekaaGreatYRefNum
import Derived.Deep.RegionHeld3
namespace Go.Proofs.YtkgjgbenfpkekaaGreat.YX
open Go.RowKit HL
open IX (ptr El cellsK cellsK_at cellsK_len OwnK RdK Kept slice_toK slice_fromK)
set_option maxRecDepth 100000
set_option linter.unusedVariables false
set_option linter.unusedSimpArgs false

theorem rfail_any (B : Nat) (w : World) (h : Bad w B) : Calls Tryz.prog 95 #[ptr B] w fun e w' => e = .returned (.tuple #[]) ∧ RAt w' B none ∧ Kept w w' (· ≠ B) := by
  obtain ⟨x, y, h1⟩ := h
  have c0 := h1.c 0
  have c1 := h1.c 1
  have f0 := h1.f 0
  have f1 := h1.f 1
  have H : Hid (RAt ((w.setCell ⟨B, 1, none⟩ (.bool true)).setCell ⟨B, 0, none⟩ (.slice none 0 0)) B none) := Lib.hid ((h1.set (i := 1) (by simp) _).set (i := 0) (by simp) _)
  clear h1
  go_enter Tryz.func95, Tryz.ntmps95
  go_wp2
  go_end0
  exact ⟨rfl, H.out, kset2 (kset _) _⟩
set_option maxHeartbeats 1000000 in
theorem rByte_any (B : Nat) (s : Option Bs) (w : World) (h : RAt w B s) : Calls Tryz.prog 75 #[ptr B] w fun e w' => e = .returned (.int .u8 ((told (0 : Nat) rdB s : Nat) : Int)) ∧ RAt w' B (rest rdB s) ∧ Kept w w' (· ≠ B) := by
  have CF := Lib.hid (rfail_any B w h.bad)
  cases s with
  | none =>
    have h : AtC w B #[.slice none 0 0, .bool true] := h
    have c0 := h.c 0
    clear h
    go_enter Tryz.func75, Tryz.ntmps75
    go_wp2_with (go_at_call 95; ((refine CF.out.mono ?_); rintro e w1 ⟨rfl, h1, k1⟩; have H1 := Lib.hid (And.intro h1 k1); clear h1 k1))
    go_ret
    exact ⟨rfl, H1.out.1, H1.out.2⟩
  | some l =>
    obtain ⟨A, c, h1, h2, h3⟩ := h
    cases l with
    | nil =>
      have c0 := h1.c 0
      simp only [List.length_nil] at c0
      clear h1 h2
      go_enter Tryz.func75, Tryz.ntmps75
      go_wp2_with (go_at_call 95; ((refine CF.out.mono ?_); rintro e w1 ⟨rfl, h1, k1⟩; have H1 := Lib.hid (And.intro h1 k1); clear h1 k1))
      go_ret
      exact ⟨rfl, H1.out.1, H1.out.2⟩
    | cons b r =>
      have hl : (b :: r).length = r.length + 1 := rfl
      obtain ⟨A2, c2, s1, s2, s3, _⟩ := slice_fromK u8K (c := c) h2 rfl (show 1 ≤ (b :: r).length by simp) h3
      rw [hl] at s1 s3 h1 h3
      have hs1 : ∀ W, (Instr.slice 22 (.slice A (r.length + 1) c) (some (.int .i64 1)) none none).run Tryz.prog W = .ok (.slice A2 r.length c2) W := fun W => s1 W
      have c0 := h1.c 0
      have f0 := h1.f 0
      obtain ⟨b1, off, rfl, hb, hc⟩ := (rdY h2).at_ (by simp)
      have cc := hc 0 b rfl
      simp only [Nat.add_zero] at cc
      have H : Hid (RAt (w.setCell ⟨B, 0, none⟩ (.slice A2 r.length c2)) B (some r)) := Lib.hid (rat_set h1 rfl (by simpa using s2 w h2) rfl (by omega))
      have i1 : ¬ ((r.length : Int) + 1 = 0) := by omega
      have i2 : ((r.length : Int) + 1 == 0) = false := by simpa using i1
      have i3 : (0 : Int) < (r.length : Int) + 1 := by omega
      clear h1 h2 s1 s2 hc hl CF
      generalize r.length = n at *
      go_enter Tryz.func75, Tryz.ntmps75
      go_wp2
      go_ret
      exact ⟨rfl, H.out, kset _⟩
set_option maxHeartbeats 1000000 in
theorem rTruth_any (B : Nat) (s : Option Bs) (w : World) (h : RAt w B s) : Calls Tryz.prog 78 #[ptr B] w fun e w' => e = .returned (.bool (told (0 : Nat) rdT s == 1)) ∧ RAt w' B (rest rdT s) ∧ Kept w w' (· ≠ B) := by
  have C := Lib.hid (rByte_any B s w h)
  have CF := Lib.hid (fun (W : World) (q : Bad W B) => rfail_any B W q)
  clear h
  by_cases hb : (told (0 : Nat) rdB s) ≤ 1
  · have i1 : ¬ (1 : Int) < ((told (0 : Nat) rdB s : Nat) : Int) := by omega
    have i2 : (((told (0 : Nat) rdB s : Nat) : Int) == 1) = (told (0 : Nat) rdB s == 1) := by rw [Bool.eq_iff_iff]; simp; omega
    have e1 : told (0 : Nat) rdB s = told (0 : Nat) rdT s := by
      cases s with
      | none => rfl
      | some l =>
        cases l with
        | nil => rfl
        | cons b r => have hb : b.toNat ≤ 1 := hb; simp [told, rdB, rdT, hb]
    have e2 : rest rdB s = rest rdT s ∨ (rest rdB s = none ∧ rest rdT s = none) := by
      cases s with
      | none => exact .inl rfl
      | some l =>
        cases l with
        | nil => exact .inl rfl
        | cons b r => have hb : b.toNat ≤ 1 := hb; simp [rest, rdB, rdT, hb]
    have e3 : rest rdB s = rest rdT s := by rcases e2 with h | ⟨h1, h2⟩ <;> simp_all
    rw [e3] at C
    rw [e1] at C i1 i2
    clear e1 e2 e3 hb
    generalize told (0 : Nat) rdT s = n at *
    go_enter Tryz.func78, Tryz.ntmps78
    go_wp2_with (go_at_call 75; ((refine C.out.mono ?_); rintro e w1 ⟨rfl, h1, k1⟩; have H1 := Lib.hid (And.intro h1 k1); clear h1 k1))
    go_ret
    exact ⟨by first | rfl | simp [i2], H1.out.1, H1.out.2⟩
  · have i1 : (1 : Int) < ((told (0 : Nat) rdB s : Nat) : Int) := by omega
    have e1 : told (0 : Nat) rdT s = 0 ∧ rest rdT s = none := by
      cases s with
      | none => exact ⟨rfl, rfl⟩
      | some l =>
        cases l with
        | nil => exact ⟨rfl, rfl⟩
        | cons b r => have hb : ¬ b.toNat ≤ 1 := hb; simp [told, rest, rdT, hb]
    rw [e1.1, e1.2]
    clear e1 hb
    generalize told (0 : Nat) rdB s = n at *
    go_enter Tryz.func78, Tryz.ntmps78
    go_wp2_with (first
      | (go_at_call 75; ((refine C.out.mono ?_); rintro e w1 ⟨rfl, h1, k1⟩; have H1 := Lib.hid (And.intro h1 k1); clear h1 k1))
      | (go_at_call 95; ((refine (CF.out _ H1.out.1.bad).mono ?_); rintro e w2 ⟨rfl, h2, k2⟩; have H2 := Lib.hid (And.intro h2 (H1.out.2.trans k2)); clear h2 k2)))
    go_ret
    exact ⟨rfl, H2.out.1, H2.out.2⟩
theorem rDone_any (B : Nat) (s : Option Bs) (w : World) (h : RAt w B s) : Calls Tryz.prog 43 #[ptr B] w fun e w' => e = .returned (.bool (doneB s)) ∧ w = w' := by
  cases s with
  | none =>
    have h : AtC w B #[.slice none 0 0, .bool true] := h
    have c1 := h.c 1
    have hd : doneB none = false := rfl
    rw [hd]
    clear h
    go_enter Tryz.func43, Tryz.ntmps43
    go_wp2
    go_ret
    exact ⟨rfl, rfl⟩
  | some l =>
    obtain ⟨A, c, h1, h2, h3⟩ := h
    have c0 := h1.c 0
    have c1 := h1.c 1
    clear h1 h2
    have hd : ((l.length : Int) == 0) = doneB (some l) := by
      unfold doneB
      cases l with
      | nil => rfl
      | cons x l => rw [Bool.eq_iff_iff]; simp; omega
    rw [← hd]
    clear hd
    generalize l.length = n at *
    go_enter Tryz.func43, Tryz.ntmps43
    go_wp2
    go_ret
    exact ⟨rfl, rfl⟩
end Go.Proofs.YtkgjgbenfpkekaaGreat.YX
