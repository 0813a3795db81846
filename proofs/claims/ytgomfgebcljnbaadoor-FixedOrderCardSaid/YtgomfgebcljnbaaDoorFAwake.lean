/-
  WALK: awake: the chapter's examples.
-/
import Derived.Test.YtgomfgebcljnbaaDoorFParse
import Derived.Test.YtgomfgebcljnbaaDoorFScalesLaw
namespace Go.Proofs.YtgomfgebcljnbaaDoor
open Go.RowKit FixMath
set_option maxRecDepth 100000
set_option linter.unusedVariables false
set_option linter.unusedSimpArgs false

theorem Units.below {w w' : World} (h : Units w) (hb : Below w.heap.size w w') : Units w' := by
  refine ⟨Nat.lt_of_lt_of_le h.1 hb.size, fun j hj => ?_⟩
  rw [← h.2 j hj]
  exact hb.cell (p := ⟨0, j, none⟩) h.1

theorem textH (n : Int) (d : Nat) (w : World) (h : countsB n d = true) (t : Bs) (ht : fixText n d = t) :
    Calls Tryd.prog 31 #[.int .i64 n, .int .u8 d] w fun e w' => e = .returned (str t) ∧ Below w.heap.size w w' := by
  have CT := Lib.hid (text_any n d w)
  rw [textV_t h ht] at CT
  clear h ht
  go_enter Tryd.func31, Tryd.ntmps31
  go_wp2_with (go_at_call 10; (refine CT.out.mono ?_; rintro e w1 ⟨rfl, hb⟩))
  go_ret
  exact ⟨rfl, hb⟩
theorem refusedH (s : ByteArray) (d : Nat) (w : World) (hs : s.size ≤ maxLen) (h : ¬ isText s.data.toList d) :
    Calls Tryd.prog 32 #[.string s, .int .u8 d] w fun e w' => e = .returned (.bool true) ∧ Below w.heap.size w w' := by
  have CT := Lib.hid (parse_any s d w hs)
  rw [parseV_f h] at CT
  clear h
  go_enter Tryd.func32, Tryd.ntmps32
  go_wp2_with (go_at_call 12; (refine CT.out.mono ?_; rintro e w1 ⟨rfl, hb⟩))
  go_ret
  exact ⟨rfl, hb⟩
theorem scaledH (n : Int) (f t : Nat) (m : Int) (x : Bool) (w : World) (hu : Units w) (h : scaleV n f t = .tuple #[.int .i64 m, .bool x, .int .i64 0]) :
    Calls Tryd.prog 33 #[.int .i64 n, .int .u8 f, .int .u8 t, .int .i64 m, .bool x] w fun e w' => e = .returned (.bool true) ∧ Below w.heap.size w w' := by
  have CT := Lib.hid (scale_any n f t w hu)
  rw [h] at CT
  clear h
  go_enter Tryd.func33, Tryd.ntmps33
  go_wp2_with (go_at_call 18; (refine CT.out.mono ?_; rintro e w1 ⟨rfl, k, rfl⟩))
  go_ret
  exact ⟨by simp, (Dr.one w k).below _⟩

theorem nd1 {n : Nat} (h : n < 10) : nd n = 1 := by unfold nd; rw [dif_pos h]
theorem nd2 {n : Nat} (h : 10 ≤ n) : nd n = nd (n / 10) + 1 := by rw [nd, dif_neg (by omega)]
theorem T1 (w : World) : Calls Tryd.prog 31 #[.int .i64 (-1234), .int .u8 2] w fun e w' => e = .returned (.string ⟨#[45, 49, 50, 46, 51, 52]⟩) ∧ Below w.heap.size w w' :=
  textH (-1234) 2 w (by decide) [45, 49, 50, 46, 51, 52] (by simp [fixText, natText, nd1, nd2, low, dig])
theorem T2 (w : World) : Calls Tryd.prog 31 #[.int .i64 5, .int .u8 3] w fun e w' => e = .returned (.string ⟨#[48, 46, 48, 48, 53]⟩) ∧ Below w.heap.size w w' :=
  textH 5 3 w (by decide) [48, 46, 48, 48, 53] (by simp [fixText, natText, nd1, nd2, low, dig])
theorem T3 (w : World) : Calls Tryd.prog 31 #[.int .i64 0, .int .u8 1] w fun e w' => e = .returned (.string ⟨#[48, 46, 48]⟩) ∧ Below w.heap.size w w' :=
  textH 0 1 w (by decide) [48, 46, 48] (by simp [fixText, natText, nd1, nd2, low, dig])
theorem not_text {l : Bs} {d : Nat} {n : Int} (h : readZ l = n) {t : Bs} (ht : fixText n d = t) (hn : t ≠ l) : ¬ isText l d := fun k => by
  have := (isText_iff.1 k).2
  rw [h, ht] at this
  exact hn this
theorem R1 (w : World) : Calls Tryd.prog 32 #[.string ⟨#[48, 49, 50]⟩, .int .u8 0] w fun e w' => e = .returned (.bool true) ∧ Below w.heap.size w w' :=
  refusedH ⟨#[48, 49, 50]⟩ 0 w (by decide) (not_text (n := 12) (t := [49, 50]) (by decide) (by simp [fixText, natText, nd1, nd2, low, dig]) (by decide))
theorem R2 (w : World) : Calls Tryd.prog 32 #[.string ⟨#[45, 48]⟩, .int .u8 0] w fun e w' => e = .returned (.bool true) ∧ Below w.heap.size w w' :=
  refusedH ⟨#[45, 48]⟩ 0 w (by decide) (not_text (n := 0) (t := [48]) (by decide) (by simp [fixText, natText, nd1, nd2, low, dig]) (by decide))
theorem R3 (w : World) : Calls Tryd.prog 32 #[.string ⟨#[49, 46]⟩, .int .u8 0] w fun e w' => e = .returned (.bool true) ∧ Below w.heap.size w w' :=
  refusedH ⟨#[49, 46]⟩ 0 w (by decide) (not_text (n := 1) (t := [49]) (by decide) (by simp [fixText, natText, nd1, nd2, low, dig]) (by decide))
theorem R4 (w : World) : Calls Tryd.prog 32 #[.string ⟨#[46, 53]⟩, .int .u8 1] w fun e w' => e = .returned (.bool true) ∧ Below w.heap.size w w' :=
  refusedH ⟨#[46, 53]⟩ 1 w (by decide) (not_text (n := 5) (t := [48, 46, 53]) (by decide) (by simp [fixText, natText, nd1, nd2, low, dig]) (by decide))
theorem R5 (w : World) : Calls Tryd.prog 32 #[.string ⟨#[49, 46, 53, 48]⟩, .int .u8 1] w fun e w' => e = .returned (.bool true) ∧ Below w.heap.size w w' :=
  refusedH ⟨#[49, 46, 53, 48]⟩ 1 w (by decide) (not_text (n := 150) (t := [49, 53, 46, 48]) (by decide) (by simp [fixText, natText, nd1, nd2, low, dig]) (by decide))
theorem S1 (w : World) (hu : Units w) : Calls Tryd.prog 33 #[.int .i64 1250, .int .u8 2, .int .u8 0, .int .i64 13, .bool false] w fun e w' => e = .returned (.bool true) ∧ Below w.heap.size w w' :=
  scaledH 1250 2 0 13 false w hu (by rfl)
theorem S2 (w : World) (hu : Units w) : Calls Tryd.prog 33 #[.int .i64 (-1250), .int .u8 2, .int .u8 0, .int .i64 (-13), .bool false] w fun e w' => e = .returned (.bool true) ∧ Below w.heap.size w w' :=
  scaledH (-1250) 2 0 (-13) false w hu (by rfl)
theorem S3 (w : World) (hu : Units w) : Calls Tryd.prog 33 #[.int .i64 1249, .int .u8 2, .int .u8 0, .int .i64 12, .bool false] w fun e w' => e = .returned (.bool true) ∧ Below w.heap.size w w' :=
  scaledH 1249 2 0 12 false w hu (by rfl)
theorem C0 (w : World) (hu : Units w) : Calls Tryd.prog 20 #[.int .i64 12, .int .u8 1, .int .i64 120, .int .u8 2] w fun e w' => e = .returned (.tuple #[.int .i64 0, .int .i64 0]) ∧ Dr w w' := by
  have h := compare_any 12 1 120 2 w hu
  have e : cmpV 12 1 120 2 = .tuple #[.int .i64 0, .int .i64 0] := by rfl
  rw [e] at h
  exact h

set_option maxHeartbeats 1000000 in
theorem awake_any (w : World) (hu : Units w) : Calls Tryd.prog 24 #[] w fun e w' => e = .returned (.bool true) ∧ Below w.heap.size w w' := by
  have HU := Lib.hid hu
  have hb : Below w.heap.size w w := Below.refl _ _
  clear hu
  go_enter Tryd.func24, Tryd.ntmps24
  go_wp2_with (go_at_call 20; (refine (C0 _ HU.out).mono ?_; rintro e w0 ⟨rfl, h0⟩; replace hb := h0.below w.heap.size))
  go_wp2_with (first
    | (go_at_call 31; (first | (with_reducible refine (T1 _).mono ?_) | (with_reducible refine (T2 _).mono ?_) | (with_reducible refine (T3 _).mono ?_)); rintro e w1 ⟨rfl, h1⟩; replace hb := hb.trans (h1.mono hb.size))
    | (go_at_call 32; (first | (with_reducible refine (R1 _).mono ?_) | (with_reducible refine (R2 _).mono ?_) | (with_reducible refine (R3 _).mono ?_) | (with_reducible refine (R4 _).mono ?_) | (with_reducible refine (R5 _).mono ?_)); rintro e w1 ⟨rfl, h1⟩; replace hb := hb.trans (h1.mono hb.size))
    | (go_at_call 33; (first | (with_reducible refine (S1 _ (HU.out.below hb)).mono ?_) | (with_reducible refine (S2 _ (HU.out.below hb)).mono ?_) | (with_reducible refine (S3 _ (HU.out.below hb)).mono ?_)); rintro e w1 ⟨rfl, h1⟩; replace hb := hb.trans (h1.mono hb.size)))
  go_ret
  exact ⟨rfl, hb⟩
end Go.Proofs.YtgomfgebcljnbaaDoor
