/-
  WALKS: same, take of the law's; two readers beside one another.
-/
import Derived.Test.YtfofpbdccgcocaaYReads
namespace Go.Proofs.Ytfofpbdccgcocaa.YX
open Go.RowKit HL
open IX (ptr El cellsK cellsK_at cellsK_len OwnK RdK Kept slice_toK slice_fromK)
set_option maxRecDepth 100000
set_option linter.unusedVariables false
set_option linter.unusedSimpArgs false

/-- What is done to one reader leaves another one alone. -/
theorem RAt.two {w w' : World} {X B : Nat} {s : Option Bs} (h : RAt w X s) (hb : ∃ x y, AtC w B #[x, y] ∧ (∀ n, x ≠ .int .u8 n) ∧ (∀ n, y ≠ .int .u8 n)) (hne : X ≠ B) (k : Kept w w' (· ≠ B)) : RAt w' X s := by
  cases s with
  | none => exact AtC.kept h k hne
  | some l =>
    obtain ⟨A, c, h1, h2, h3⟩ := h
    refine ⟨A, c, h1.kept k hne, ?_, h3⟩
    rcases rdY h2 with e | ⟨b, off, e, hlt, hc⟩
    · exact rdY_back (.inl e)
    · subst e
      refine rdY_back (.inr ⟨b, off, rfl, hlt, fun j y hy => ?_⟩)
      have hcj := hc j y hy
      have hbB : b ≠ B := by
        rintro rfl
        obtain ⟨u, v, ha, hu, hv⟩ := hb
        rw [ha.c (off + j)] at hcj
        rcases (show off + j = 0 ∨ off + j = 1 ∨ 2 ≤ off + j by omega) with q | q | q
        · rw [q] at hcj; simp at hcj; exact hu _ hcj
        · rw [q] at hcj; simp at hcj; exact hv _ hcj
        · rw [Array.getElem?_eq_none (by simpa using q)] at hcj; cases hcj
      exact (k.cell (Nat.lt_trans hlt h1.lt) hbB).trans hcj
theorem RAt.shape {w : World} {B : Nat} {s : Option Bs} (h : RAt w B s) : ∃ x y, AtC w B #[x, y] ∧ (∀ n, x ≠ .int .u8 n) ∧ (∀ n, y ≠ .int .u8 n) := by
  cases s with
  | none => exact ⟨_, _, h, fun n q => (by cases q), fun n q => (by cases q)⟩
  | some l => obtain ⟨A, c, h1, _⟩ := h; exact ⟨_, _, h1, fun n q => (by cases q), fun n q => (by cases q)⟩
theorem RAt.aside {w w' : World} {X B : Nat} {s t : Option Bs} (h : RAt w X s) (hb : RAt w B t) (hne : X ≠ B) (k : Kept w w' (· ≠ B)) : RAt w' X s := h.two hb.shape hne k
theorem bne8 {a : Int} : (a == a) = true := by simp

set_option maxHeartbeats 2000000 in
theorem same_0 (B X kk : Nat) (s : Option Bs) (hs : Lim s) (hne : X ≠ B) (hk : kk % 5 = 0) (w : World) (h : RAt w B s) (hx : RAt w X s) : Calls Try.prog 14 #[ptr B, ptr X, .int .u8 kk] w fun e w' => e = .returned (.bool true) ∧ RAt w' B (rest (rdK kk) s) ∧ RAt w' X (rest (rdK kk) s) ∧ Kept w w' (fun b => b ≠ B ∧ b ≠ X) := by
  have e1 : (kk : Int) % 5 = 0 := by omega
  have CB := Lib.hid (octet_any2 B s w h)
  have CX := Lib.hid (fun W (q : RAt W X s) => rByte_any X s W q)
  have HX := Lib.hid (fun (w' : World) (k : Kept w w' (· ≠ B)) => hx.aside h hne k)
  rw [(rk0 hk s).1]
  generalize told (0 : Nat) rdB s = tv at *
  generalize rest rdB s = ts at *
  clear h hx
  go_enter Try.func14, Try.ntmps14
  go_wp2_with (first
    | (go_at_call 19; ((refine CB.out.mono ?_); rintro e w1 ⟨rfl, h1, k1⟩; have H1 := Lib.hid (And.intro h1 k1); clear h1 k1))
    | (go_at_call 38; ((refine (CX.out _ (HX.out _ H1.out.2)).mono ?_); rintro e w2 ⟨rfl, h2, k2⟩; have H3 := Lib.hid (H1.out.1.two (HX.out _ H1.out.2).shape (Ne.symm hne) k2); have H2 := Lib.hid (And.intro h2 ((H1.out.2.weak (fun b q => q.1)).trans (k2.weak (fun b q => q.2)) : Kept w w2 (fun b => b ≠ B ∧ b ≠ X))); clear h2 k2)))
  go_ret
  exact ⟨by first | rfl | simp, H3.out, H2.out.1, H2.out.2⟩

set_option maxHeartbeats 2000000 in
theorem same_1 (B X kk : Nat) (s : Option Bs) (hs : Lim s) (hne : X ≠ B) (hk : kk % 5 = 1) (w : World) (h : RAt w B s) (hx : RAt w X s) : Calls Try.prog 14 #[ptr B, ptr X, .int .u8 kk] w fun e w' => e = .returned (.bool true) ∧ RAt w' B (rest (rdK kk) s) ∧ RAt w' X (rest (rdK kk) s) ∧ Kept w w' (fun b => b ≠ B ∧ b ≠ X) := by
  have e1 : (kk : Int) % 5 = 1 := by omega
  have CB := Lib.hid (truth_any2 B s w h)
  have CX := Lib.hid (fun W (q : RAt W X s) => rTruth_any X s W q)
  have HX := Lib.hid (fun (w' : World) (k : Kept w w' (· ≠ B)) => hx.aside h hne k)
  rw [(rk1 hk s).1]
  generalize told (0 : Nat) rdT s = tv at *
  generalize rest rdT s = ts at *
  clear h hx
  go_enter Try.func14, Try.ntmps14
  go_wp2_with (first
    | (go_at_call 20; ((refine CB.out.mono ?_); rintro e w1 ⟨rfl, h1, k1⟩; have H1 := Lib.hid (And.intro h1 k1); clear h1 k1))
    | (go_at_call 39; ((refine (CX.out _ (HX.out _ H1.out.2)).mono ?_); rintro e w2 ⟨rfl, h2, k2⟩; have H3 := Lib.hid (H1.out.1.two (HX.out _ H1.out.2).shape (Ne.symm hne) k2); have H2 := Lib.hid (And.intro h2 ((H1.out.2.weak (fun b q => q.1)).trans (k2.weak (fun b q => q.2)) : Kept w w2 (fun b => b ≠ B ∧ b ≠ X))); clear h2 k2)))
  go_ret
  exact ⟨by first | rfl | simp, H3.out, H2.out.1, H2.out.2⟩

set_option maxHeartbeats 2000000 in
theorem same_2 (B X kk : Nat) (s : Option Bs) (hs : Lim s) (hne : X ≠ B) (hk : kk % 5 = 2) (w : World) (h : RAt w B s) (hx : RAt w X s) : Calls Try.prog 14 #[ptr B, ptr X, .int .u8 kk] w fun e w' => e = .returned (.bool true) ∧ RAt w' B (rest (rdK kk) s) ∧ RAt w' X (rest (rdK kk) s) ∧ Kept w w' (fun b => b ≠ B ∧ b ≠ X) := by
  have e1 : (kk : Int) % 5 = 2 := by omega
  have CB := Lib.hid (unsigned_any2 B s w h)
  have CX := Lib.hid (fun W (q : RAt W X s) => rUint_any X s hs W q)
  have HX := Lib.hid (fun (w' : World) (k : Kept w w' (· ≠ B)) => hx.aside h hne k)
  rw [(rk2 hk s).1]
  generalize told (0 : Nat) rdU s = tv at *
  generalize rest rdU s = ts at *
  clear h hx
  go_enter Try.func14, Try.ntmps14
  go_wp2_with (first
    | (go_at_call 21; ((refine CB.out.mono ?_); rintro e w1 ⟨rfl, h1, k1⟩; have H1 := Lib.hid (And.intro h1 k1); clear h1 k1))
    | (go_at_call 40; ((refine (CX.out _ (HX.out _ H1.out.2)).mono ?_); rintro e w2 ⟨rfl, h2, k2⟩; have H3 := Lib.hid (H1.out.1.two (HX.out _ H1.out.2).shape (Ne.symm hne) k2); have H2 := Lib.hid (And.intro h2 ((H1.out.2.weak (fun b q => q.1)).trans (k2.weak (fun b q => q.2)) : Kept w w2 (fun b => b ≠ B ∧ b ≠ X))); clear h2 k2)))
  go_ret
  exact ⟨by first | rfl | simp, H3.out, H2.out.1, H2.out.2⟩

set_option maxHeartbeats 2000000 in
theorem same_3 (B X kk : Nat) (s : Option Bs) (hs : Lim s) (hne : X ≠ B) (hk : kk % 5 = 3) (w : World) (h : RAt w B s) (hx : RAt w X s) : Calls Try.prog 14 #[ptr B, ptr X, .int .u8 kk] w fun e w' => e = .returned (.bool true) ∧ RAt w' B (rest (rdK kk) s) ∧ RAt w' X (rest (rdK kk) s) ∧ Kept w w' (fun b => b ≠ B ∧ b ≠ X) := by
  have e1 : (kk : Int) % 5 = 3 := by omega
  have CB := Lib.hid (signed_any2 B s w h)
  have CX := Lib.hid (fun W (q : RAt W X s) => rInt_any X s hs W q)
  have HX := Lib.hid (fun (w' : World) (k : Kept w w' (· ≠ B)) => hx.aside h hne k)
  rw [(rk3 hk s).1]
  generalize told (0 : Int) rdI s = tv at *
  generalize rest rdI s = ts at *
  clear h hx
  go_enter Try.func14, Try.ntmps14
  go_wp2_with (first
    | (go_at_call 22; ((refine CB.out.mono ?_); rintro e w1 ⟨rfl, h1, k1⟩; have H1 := Lib.hid (And.intro h1 k1); clear h1 k1))
    | (go_at_call 41; ((refine (CX.out _ (HX.out _ H1.out.2)).mono ?_); rintro e w2 ⟨rfl, h2, k2⟩; have H3 := Lib.hid (H1.out.1.two (HX.out _ H1.out.2).shape (Ne.symm hne) k2); have H2 := Lib.hid (And.intro h2 ((H1.out.2.weak (fun b q => q.1)).trans (k2.weak (fun b q => q.2)) : Kept w w2 (fun b => b ≠ B ∧ b ≠ X))); clear h2 k2)))
  go_ret
  exact ⟨by first | rfl | simp, H3.out, H2.out.1, H2.out.2⟩

set_option maxHeartbeats 2000000 in
theorem same_4 (B X kk : Nat) (s : Option Bs) (hs : Lim s) (hne : X ≠ B) (hk : kk % 5 = 4) (w : World) (h : RAt w B s) (hx : RAt w X s) : Calls Try.prog 14 #[ptr B, ptr X, .int .u8 kk] w fun e w' => e = .returned (.bool true) ∧ RAt w' B (rest (rdK kk) s) ∧ RAt w' X (rest (rdK kk) s) ∧ Kept w w' (fun b => b ≠ B ∧ b ≠ X) := by
  have e1 : (kk : Int) % 5 = 4 := by omega
  have CB := Lib.hid (text_any2 B s w h)
  have CX := Lib.hid (fun W (q : RAt W X s) => rText_any X s hs W q)
  have HX := Lib.hid (fun (w' : World) (k : Kept w w' (· ≠ B)) => hx.aside h hne k)
  rw [(rk4 hk s).1]
  generalize told ([] : Bs) rdS s = tv at *
  generalize rest rdS s = ts at *
  clear h hx
  go_enter Try.func14, Try.ntmps14
  go_wp2_with (first
    | (go_at_call 23; ((refine CB.out.mono ?_); rintro e w1 ⟨rfl, h1, k1⟩; have H1 := Lib.hid (And.intro h1 k1); clear h1 k1))
    | (go_at_call 42; ((refine (CX.out _ (HX.out _ H1.out.2)).mono ?_); rintro e w2 ⟨rfl, h2, k2⟩; have H3 := Lib.hid (H1.out.1.two (HX.out _ H1.out.2).shape (Ne.symm hne) k2); have H2 := Lib.hid (And.intro h2 ((H1.out.2.weak (fun b q => q.1)).trans (k2.weak (fun b q => q.2)) : Kept w w2 (fun b => b ≠ B ∧ b ≠ X))); clear h2 k2)))
  go_ret
  exact ⟨by first | rfl | simp, H3.out, H2.out.1, H2.out.2⟩

theorem same_any (B X kk : Nat) (s : Option Bs) (hs : Lim s) (hne : X ≠ B) (w : World) (h : RAt w B s) (hx : RAt w X s) : Calls Try.prog 14 #[ptr B, ptr X, .int .u8 kk] w fun e w' => e = .returned (.bool true) ∧ RAt w' B (rest (rdK kk) s) ∧ RAt w' X (rest (rdK kk) s) ∧ Kept w w' (fun b => b ≠ B ∧ b ≠ X) := by
  have := Nat.mod_lt kk (show 0 < 5 by decide)
  rcases (show kk % 5 = 0 ∨ kk % 5 = 1 ∨ kk % 5 = 2 ∨ kk % 5 = 3 ∨ kk % 5 = 4 by omega) with q | q | q | q | q
  · exact same_0 B X kk s hs hne q w h hx
  · exact same_1 B X kk s hs hne q w h hx
  · exact same_2 B X kk s hs hne q w h hx
  · exact same_3 B X kk s hs hne q w h hx
  · exact same_4 B X kk s hs hne q w h hx
theorem fill3 {W : World} {S : Nat} {a b c : Value} (h : AtC W S #[a, b, c]) (x y z : Value) : AtC (((W.setCell ⟨S, 0, none⟩ x).setCell ⟨S, 1, none⟩ y).setCell ⟨S, 2, none⟩ z) S #[x, y, z] := by
  have q := ((h.set (i := 0) (by simp) x).set (i := 1) (by simp) y).set (i := 2) (by simp) z
  simpa using q
theorem tk_rat {W : World} {B S i : Nat} {v : Value} {s : Option Bs} (h : RAt W B s) (hS : B < S) : RAt (W.setCell ⟨S, i, none⟩ v) B s := h.kept (P := (· ≠ S)) ((Kept.refl W _).set (B := S) (fun _ q => q rfl) v) (fun j hj => by show j ≠ S; omega)
theorem tk_kept {w W : World} {S i : Nat} {v : Value} {P : Nat → Prop} (h : Kept w W P) (hS : w.heap.size ≤ S) : Kept w (W.setCell ⟨S, i, none⟩ v) P := h.set (B := S) (fun q => by omega) v
/-- The thing that is told. -/
def thOf (k : Nat) (s : Option Bs) : Th := ⟨k, (told z0 (rdK k) s).1, (told z0 (rdK k) s).2⟩
theorem toU_cast {i : Int} (h1 : -9223372036854775808 ≤ i) (h2 : i < 9223372036854775808) : IntKind.u64.wrap i = ((toU i : Nat) : Int) := by
  unfold toU; simp [IntKind.wrap, IntKind.bits, IntKind.signed]; split <;> omega

set_option maxHeartbeats 4000000 in
theorem take_0 (B kk : Nat) (s : Option Bs) (hk : kk % 5 = 0) (w : World) (h : RAt w B s) : Calls Try.prog 27 #[ptr B, .int .u8 kk] w fun e w' => e = .returned (th (thOf kk s)) ∧ RAt w' B (rest (rdK kk) s) ∧ Kept w w' (· ≠ B) := by
  have e1 : (kk : Int) % 5 = 0 := by omega
  have hB := h.lt
  have b1 := bAl (Below.refl w.heap.size w) (.cells #[.int .u8 0, .int .u64 0, .string ByteArray.empty] 32)
  have ht : thOf kk s = ⟨kk, (told z0 (rdK kk) s).1, (told z0 (rdK kk) s).2⟩ := rfl
  rw [ht, (rk0 hk s).1, (rk0 hk s).2]
  have hlt := told_B s
  have C := Lib.hid (fun W (q : RAt W B s) => octet_any2 B s W q)
  have HR := Lib.hid (fun (W : World) (q : Below w.heap.size w W) => h.below q)
  generalize told (0 : Nat) rdB s = tv at *
  generalize rest rdB s = ts at *
  have ec : IntKind.u64.wrap ((tv : Nat) : Int) = ((tv : Nat) : Int) := wU (by omega)
  clear h ht b1
  go_enter Try.func27, Try.ntmps27
  go_wp2_with (go_at_call 19; ((refine (C.out _ (HR.out _ (bAl (bAl (Below.refl _ _) _) _))).mono ?_); rintro e w1 ⟨rfl, h1, k1⟩; have m0 := ((AtC.newAt (w := w) (B := w.heap.size) rfl).al _).kept k1 (by show w.heap.size ≠ B; omega); have m1 := (AtC.newAt (w := w.alloc _) (B := w.heap.size + 1) (by simp)).kept k1 (by show w.heap.size + 1 ≠ B; omega); have c00 := m0.c 0; have c01 := m0.c 1; have c02 := m0.c 2; have c10 := m1.c 0; have c11 := m1.c 1; have c12 := m1.c 2; have f00 := m0.f 0; have f01 := m0.f 1; have f02 := m0.f 2; have f11 := m1.f 1; have f12 := m1.f 2; have M := Lib.hid (And.intro m0 m1); have H1 := Lib.hid (And.intro h1 (Kept.trans (.of_below (bAl (bAl (Below.refl _ _) _) _)) k1)); clear m0 m1 h1 k1))
  all_goals
    have hS0 : B < w.heap.size := hB
    have hS1 : B < w.heap.size + 1 := by omega
    have hz0 : w.heap.size ≤ w.heap.size := Nat.le_refl _
    have hz1 : w.heap.size ≤ w.heap.size + 1 := Nat.le_succ _
    refine ret_row (C := thC ⟨kk, tv, []⟩) rfl rfl rfl ?_ ?_ ?_ ?_
    · exact fill3 (M.out.1.store (p := ⟨w.heap.size + 1, 1, none⟩) (by simp) _) _ _ _
    · exact Try.isAgg32 _
    · exact Try.sizeOf32 _
    · refine ⟨rfl, ?_, ?_⟩
      · exact tk_rat (tk_rat (tk_rat (tk_rat H1.out.1 hS1) hS0) hS0) hS0
      · exact tk_kept (tk_kept (tk_kept (tk_kept H1.out.2 hz1) hz0) hz0) hz0

set_option maxHeartbeats 4000000 in
theorem take_1 (B kk : Nat) (s : Option Bs) (hk : kk % 5 = 1) (w : World) (h : RAt w B s) : Calls Try.prog 27 #[ptr B, .int .u8 kk] w fun e w' => e = .returned (th (thOf kk s)) ∧ RAt w' B (rest (rdK kk) s) ∧ Kept w w' (· ≠ B) := by
  have e1 : (kk : Int) % 5 = 1 := by omega
  have hB := h.lt
  have b1 := bAl (Below.refl w.heap.size w) (.cells #[.int .u8 0, .int .u64 0, .string ByteArray.empty] 32)
  have ht : thOf kk s = ⟨kk, (told z0 (rdK kk) s).1, (told z0 (rdK kk) s).2⟩ := rfl
  rw [ht, (rk1 hk s).1, (rk1 hk s).2]
  have hlt := told_T s
  have C := Lib.hid (fun W (q : RAt W B s) => truth_any2 B s W q)
  have HR := Lib.hid (fun (W : World) (q : Below w.heap.size w W) => h.below q)
  generalize told (0 : Nat) rdT s = tv at *
  generalize rest rdT s = ts at *
  clear h ht b1
  go_enter Try.func27, Try.ntmps27
  go_wp2_with (go_at_call 20; ((refine (C.out _ (HR.out _ (bAl (bAl (Below.refl _ _) _) _))).mono ?_); rintro e w1 ⟨rfl, h1, k1⟩; have m0 := ((AtC.newAt (w := w) (B := w.heap.size) rfl).al _).kept k1 (by show w.heap.size ≠ B; omega); have m1 := (AtC.newAt (w := w.alloc _) (B := w.heap.size + 1) (by simp)).kept k1 (by show w.heap.size + 1 ≠ B; omega); have c00 := m0.c 0; have c01 := m0.c 1; have c02 := m0.c 2; have c10 := m1.c 0; have c11 := m1.c 1; have c12 := m1.c 2; have f00 := m0.f 0; have f01 := m0.f 1; have f02 := m0.f 2; have f11 := m1.f 1; have f12 := m1.f 2; have M := Lib.hid (And.intro m0 m1); have H1 := Lib.hid (And.intro h1 (Kept.trans (.of_below (bAl (bAl (Below.refl _ _) _) _)) k1)); clear m0 m1 h1 k1))
  all_goals
    have hS0 : B < w.heap.size := hB
    have hS1 : B < w.heap.size + 1 := by omega
    have hz0 : w.heap.size ≤ w.heap.size := Nat.le_refl _
    have hz1 : w.heap.size ≤ w.heap.size + 1 := Nat.le_succ _
    first
      | (have q1 : tv = 1 := by simpa using ‹(tv == 1) = true›
         subst q1
         refine ret_row (C := thC ⟨kk, 1, []⟩) rfl rfl rfl ?_ ?_ ?_ ?_
         · exact fill3 (M.out.1.store (p := ⟨w.heap.size + 1, 1, none⟩) (by simp) _) _ _ _
         · exact Try.isAgg32 _
         · exact Try.sizeOf32 _
         · refine ⟨rfl, ?_, ?_⟩
           · exact tk_rat (tk_rat (tk_rat (tk_rat H1.out.1 hS1) hS0) hS0) hS0
           · exact tk_kept (tk_kept (tk_kept (tk_kept H1.out.2 hz1) hz0) hz0) hz0)
      | (have q2 : ¬ tv = 1 := by simpa using ‹(tv == 1) = false›
         have q1 : tv = 0 := by omega
         subst q1
         refine ret_row (C := thC ⟨kk, 0, []⟩) rfl rfl rfl ?_ ?_ ?_ ?_
         · exact fill3 M.out.1 _ _ _
         · exact Try.isAgg32 _
         · exact Try.sizeOf32 _
         · refine ⟨rfl, ?_, ?_⟩
           · exact tk_rat (tk_rat (tk_rat H1.out.1 hS0) hS0) hS0
           · exact tk_kept (tk_kept (tk_kept H1.out.2 hz0) hz0) hz0)

set_option maxHeartbeats 4000000 in
theorem take_2 (B kk : Nat) (s : Option Bs) (hk : kk % 5 = 2) (w : World) (h : RAt w B s) : Calls Try.prog 27 #[ptr B, .int .u8 kk] w fun e w' => e = .returned (th (thOf kk s)) ∧ RAt w' B (rest (rdK kk) s) ∧ Kept w w' (· ≠ B) := by
  have e1 : (kk : Int) % 5 = 2 := by omega
  have hB := h.lt
  have b1 := bAl (Below.refl w.heap.size w) (.cells #[.int .u8 0, .int .u64 0, .string ByteArray.empty] 32)
  have ht : thOf kk s = ⟨kk, (told z0 (rdK kk) s).1, (told z0 (rdK kk) s).2⟩ := rfl
  rw [ht, (rk2 hk s).1, (rk2 hk s).2]
  have hlt := told_lt s
  have C := Lib.hid (fun W (q : RAt W B s) => unsigned_any2 B s W q)
  have HR := Lib.hid (fun (W : World) (q : Below w.heap.size w W) => h.below q)
  generalize told (0 : Nat) rdU s = tv at *
  generalize rest rdU s = ts at *
  clear h ht b1
  go_enter Try.func27, Try.ntmps27
  go_wp2_with (go_at_call 21; ((refine (C.out _ (HR.out _ (bAl (bAl (Below.refl _ _) _) _))).mono ?_); rintro e w1 ⟨rfl, h1, k1⟩; have m0 := ((AtC.newAt (w := w) (B := w.heap.size) rfl).al _).kept k1 (by show w.heap.size ≠ B; omega); have m1 := (AtC.newAt (w := w.alloc _) (B := w.heap.size + 1) (by simp)).kept k1 (by show w.heap.size + 1 ≠ B; omega); have c00 := m0.c 0; have c01 := m0.c 1; have c02 := m0.c 2; have c10 := m1.c 0; have c11 := m1.c 1; have c12 := m1.c 2; have f00 := m0.f 0; have f01 := m0.f 1; have f02 := m0.f 2; have f11 := m1.f 1; have f12 := m1.f 2; have M := Lib.hid (And.intro m0 m1); have H1 := Lib.hid (And.intro h1 (Kept.trans (.of_below (bAl (bAl (Below.refl _ _) _) _)) k1)); clear m0 m1 h1 k1))
  all_goals
    have hS0 : B < w.heap.size := hB
    have hS1 : B < w.heap.size + 1 := by omega
    have hz0 : w.heap.size ≤ w.heap.size := Nat.le_refl _
    have hz1 : w.heap.size ≤ w.heap.size + 1 := Nat.le_succ _
    refine ret_row (C := thC ⟨kk, tv, []⟩) rfl rfl rfl ?_ ?_ ?_ ?_
    · exact fill3 (M.out.1.store (p := ⟨w.heap.size + 1, 1, none⟩) (by simp) _) _ _ _
    · exact Try.isAgg32 _
    · exact Try.sizeOf32 _
    · refine ⟨rfl, ?_, ?_⟩
      · exact tk_rat (tk_rat (tk_rat (tk_rat H1.out.1 hS1) hS0) hS0) hS0
      · exact tk_kept (tk_kept (tk_kept (tk_kept H1.out.2 hz1) hz0) hz0) hz0

set_option maxHeartbeats 4000000 in
theorem take_3 (B kk : Nat) (s : Option Bs) (hk : kk % 5 = 3) (w : World) (h : RAt w B s) : Calls Try.prog 27 #[ptr B, .int .u8 kk] w fun e w' => e = .returned (th (thOf kk s)) ∧ RAt w' B (rest (rdK kk) s) ∧ Kept w w' (· ≠ B) := by
  have e1 : (kk : Int) % 5 = 3 := by omega
  have hB := h.lt
  have b1 := bAl (Below.refl w.heap.size w) (.cells #[.int .u8 0, .int .u64 0, .string ByteArray.empty] 32)
  have ht : thOf kk s = ⟨kk, (told z0 (rdK kk) s).1, (told z0 (rdK kk) s).2⟩ := rfl
  rw [ht, (rk3 hk s).1, (rk3 hk s).2]
  have hlt := told_I s
  have C := Lib.hid (fun W (q : RAt W B s) => signed_any2 B s W q)
  have HR := Lib.hid (fun (W : World) (q : Below w.heap.size w W) => h.below q)
  generalize told (0 : Int) rdI s = tv at *
  generalize rest rdI s = ts at *
  have ec := toU_cast hlt.1 hlt.2
  clear h ht b1
  go_enter Try.func27, Try.ntmps27
  go_wp2_with (go_at_call 22; ((refine (C.out _ (HR.out _ (bAl (bAl (Below.refl _ _) _) _))).mono ?_); rintro e w1 ⟨rfl, h1, k1⟩; have m0 := ((AtC.newAt (w := w) (B := w.heap.size) rfl).al _).kept k1 (by show w.heap.size ≠ B; omega); have m1 := (AtC.newAt (w := w.alloc _) (B := w.heap.size + 1) (by simp)).kept k1 (by show w.heap.size + 1 ≠ B; omega); have c00 := m0.c 0; have c01 := m0.c 1; have c02 := m0.c 2; have c10 := m1.c 0; have c11 := m1.c 1; have c12 := m1.c 2; have f00 := m0.f 0; have f01 := m0.f 1; have f02 := m0.f 2; have f11 := m1.f 1; have f12 := m1.f 2; have M := Lib.hid (And.intro m0 m1); have H1 := Lib.hid (And.intro h1 (Kept.trans (.of_below (bAl (bAl (Below.refl _ _) _) _)) k1)); clear m0 m1 h1 k1))
  all_goals
    have hS0 : B < w.heap.size := hB
    have hS1 : B < w.heap.size + 1 := by omega
    have hz0 : w.heap.size ≤ w.heap.size := Nat.le_refl _
    have hz1 : w.heap.size ≤ w.heap.size + 1 := Nat.le_succ _
    refine ret_row (C := thC ⟨kk, toU tv, []⟩) rfl rfl rfl ?_ ?_ ?_ ?_
    · exact fill3 (M.out.1.store (p := ⟨w.heap.size + 1, 1, none⟩) (by simp) _) _ _ _
    · exact Try.isAgg32 _
    · exact Try.sizeOf32 _
    · refine ⟨rfl, ?_, ?_⟩
      · exact tk_rat (tk_rat (tk_rat (tk_rat H1.out.1 hS1) hS0) hS0) hS0
      · exact tk_kept (tk_kept (tk_kept (tk_kept H1.out.2 hz1) hz0) hz0) hz0

set_option maxHeartbeats 4000000 in
theorem take_4 (B kk : Nat) (s : Option Bs) (hk : kk % 5 = 4) (w : World) (h : RAt w B s) : Calls Try.prog 27 #[ptr B, .int .u8 kk] w fun e w' => e = .returned (th (thOf kk s)) ∧ RAt w' B (rest (rdK kk) s) ∧ Kept w w' (· ≠ B) := by
  have e1 : (kk : Int) % 5 = 4 := by omega
  have hB := h.lt
  have b1 := bAl (Below.refl w.heap.size w) (.cells #[.int .u8 0, .int .u64 0, .string ByteArray.empty] 32)
  have ht : thOf kk s = ⟨kk, (told z0 (rdK kk) s).1, (told z0 (rdK kk) s).2⟩ := rfl
  rw [ht, (rk4 hk s).1, (rk4 hk s).2]
  have C := Lib.hid (fun W (q : RAt W B s) => text_any2 B s W q)
  have HR := Lib.hid (fun (W : World) (q : Below w.heap.size w W) => h.below q)
  generalize told ([] : Bs) rdS s = tv at *
  generalize rest rdS s = ts at *
  clear h ht b1
  go_enter Try.func27, Try.ntmps27
  go_wp2_with (go_at_call 23; ((refine (C.out _ (HR.out _ (bAl (bAl (Below.refl _ _) _) _))).mono ?_); rintro e w1 ⟨rfl, h1, k1⟩; have m0 := ((AtC.newAt (w := w) (B := w.heap.size) rfl).al _).kept k1 (by show w.heap.size ≠ B; omega); have m1 := (AtC.newAt (w := w.alloc _) (B := w.heap.size + 1) (by simp)).kept k1 (by show w.heap.size + 1 ≠ B; omega); have c00 := m0.c 0; have c01 := m0.c 1; have c02 := m0.c 2; have c10 := m1.c 0; have c11 := m1.c 1; have c12 := m1.c 2; have f00 := m0.f 0; have f01 := m0.f 1; have f02 := m0.f 2; have f11 := m1.f 1; have f12 := m1.f 2; have M := Lib.hid (And.intro m0 m1); have H1 := Lib.hid (And.intro h1 (Kept.trans (.of_below (bAl (bAl (Below.refl _ _) _) _)) k1)); clear m0 m1 h1 k1))
  all_goals
    have hS0 : B < w.heap.size := hB
    have hS1 : B < w.heap.size + 1 := by omega
    have hz0 : w.heap.size ≤ w.heap.size := Nat.le_refl _
    have hz1 : w.heap.size ≤ w.heap.size + 1 := Nat.le_succ _
    refine ret_row (C := thC ⟨kk, 0, tv⟩) rfl rfl rfl ?_ ?_ ?_ ?_
    · exact fill3 (M.out.1.store (p := ⟨w.heap.size + 1, 2, none⟩) (by simp) _) _ _ _
    · exact Try.isAgg32 _
    · exact Try.sizeOf32 _
    · refine ⟨rfl, ?_, ?_⟩
      · exact tk_rat (tk_rat (tk_rat (tk_rat H1.out.1 hS1) hS0) hS0) hS0
      · exact tk_kept (tk_kept (tk_kept (tk_kept H1.out.2 hz1) hz0) hz0) hz0

theorem take_any (B kk : Nat) (s : Option Bs) (w : World) (h : RAt w B s) : Calls Try.prog 27 #[ptr B, .int .u8 kk] w fun e w' => e = .returned (th (thOf kk s)) ∧ RAt w' B (rest (rdK kk) s) ∧ Kept w w' (· ≠ B) := by
  have := Nat.mod_lt kk (show 0 < 5 by decide)
  rcases (show kk % 5 = 0 ∨ kk % 5 = 1 ∨ kk % 5 = 2 ∨ kk % 5 = 3 ∨ kk % 5 = 4 by omega) with q | q | q | q | q
  · exact take_0 B kk s q w h
  · exact take_1 B kk s q w h
  · exact take_2 B kk s q w h
  · exact take_3 B kk s q w h
  · exact take_4 B kk s q w h
end Go.Proofs.Ytfofpbdccgcocaa.YX
