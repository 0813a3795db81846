/-
  WALKS: the document's Uint, Int, Truth, Text.
-/
import Derived.Test.YtkgjgbenfpkekaaYNum
namespace Go.Proofs.Ytkgjgbenfpkekaa.YX
open Go.RowKit HL
open IX (ptr El cellsK cellsK_at cellsK_len OwnK RdK Kept slice_toK slice_fromK)
set_option maxRecDepth 100000
set_option linter.unusedVariables false
set_option linter.unusedSimpArgs false

/-- A row of bytes of one's own is told. -/
def Own (w0 : World) (l : Bs) (e : Ending) (w' : World) : Prop := ∃ v, e = .returned v ∧ OwnK u8K w' w0.heap.size v l ∧ Below w0.heap.size w0 w'
set_option maxHeartbeats 2000000 in
theorem refU_any : ∀ (n : Nat), n < 18446744073709551616 → ∀ (j : Int) (w : World), j = n → Calls Try.prog 32 #[.int .u64 j] w fun e w' => Own w (numB n) e w' := by
  intro n
  induction n using Nat.strongRecOn with
  | ind n ih =>
    intro hn j w hj
    subst hj
    by_cases h : n < 128
    · have i1 : (n : Int) < 128 := by omega
      have e1 : IntKind.u8.wrap (n : Int) = (n : Int) := by simp [IntKind.wrap, IntKind.bits, IntKind.signed]; omega
      obtain ⟨x, hx⟩ : ∃ x, x = UInt8.ofNat n := ⟨_, rfl⟩
      have hv : Value.int .u8 (n : Int) = YX.u8 x := by unfold YX.u8; rw [hx, u8n (by omega)]
      have HX := Lib.hid (show [x] = numB n by rw [numB_lo h, hx])
      clear hx ih
      go_enter Try.func32, Try.ntmps32
      go_wp2
      go_ret
      exact ⟨_, rfl, by rw [← HX.out]; exact own1 w _ (Nat.le_refl _) x rfl, bAl (Below.refl _ _) _⟩
    · have i1 : ¬ (n : Int) < 128 := by omega
      have e1 : IntKind.u8.wrap ((n : Int) % 128) = (n : Int) % 128 := by simp [IntKind.wrap, IntKind.bits, IntKind.signed]; omega
      have e2 : IntKind.u8.wrap ((n : Int) % 128 + 128) = (n : Int) % 128 + 128 := by simp [IntKind.wrap, IntKind.bits, IntKind.signed]; omega
      have C := Lib.hid (ih (n / 128) (by omega) (by omega))
      have hlen := numB_len64 (n := n / 128) (by omega)
      obtain ⟨x, hx⟩ : ∃ x, x = UInt8.ofNat (n % 128 + 128) := ⟨_, rfl⟩
      have hv : Value.int .u8 ((n : Int) % 128 + 128) = YX.u8 x := by unfold YX.u8; rw [hx, u8n (by omega)]; simp
      have HX := Lib.hid (show x :: numB (n / 128) = numB n by rw [numB_hi h, hx])
      have O1 := Lib.hid (own1 w w.heap.size (Nat.le_refl _) x rfl)
      clear hx ih
      generalize numB (n / 128) = t at *
      go_enter Try.func32, Try.ntmps32
      go_wp2_with (first
        | (go_at_call 32; ((refine (C.out _ _ (by simp)).mono ?_); rintro e w1 ⟨v1, rfl, o1, k1⟩; obtain ⟨A1, c1, rfl, r1, _, _⟩ := o1.form; have R1 := Lib.hid r1; have K1 := Lib.hid k1; have O2 := Lib.hid (O1.out.below k1); clear o1 r1 k1))
        | (at_builtin; refine IX.wpList_spreadK u8K rfl (.tmp 12) (.tmp 15) rfl w.heap.size _ [x] rfl O2.out w1.heap.size A1 t.length c1 t rfl rfl R1.out ?c1 ?c2 ?_))
      case c1 => first | omega | (simp; omega)
      case c2 => exact Nat.le_trans (by simp) K1.out.size
      intro v' w5 o5 g5 f5
      have b5 := Lib.hid ((bThen (bAl (Below.refl w.heap.size w) (.cells #[YX.u8 x] 5)) K1.out).grown g5 (Nat.le_trans (by simp) K1.out.size) (fun a ha => (O2.out.lt a ha).1))
      have O5 := Lib.hid o5
      clear o5 g5
      go_wp2
      go_ret
      exact ⟨_, rfl, by rw [← HX.out]; exact O5.out, b5.out⟩
/-- A row of one's own of a callee's. -/
theorem Own.mono {w0 w1 : World} {l : Bs} {e : Ending} {w' : World} (h : Own w1 l e w') (k : Below w0.heap.size w0 w1) : Own w0 l e w' := by
  obtain ⟨v, h1, h2, h3⟩ := h
  exact ⟨v, h1, h2.base k.size, bThen k h3⟩
set_option maxHeartbeats 2000000 in
theorem refI_any (i : Int) (h1 : -9223372036854775808 ≤ i) (h2 : i < 9223372036854775808) (w : World) : Calls Try.prog 64 #[.int .i64 i] w fun e w' => Own w (numB (intN i)) e w' := by
  have hlt := intN_lt h1 h2
  have C := Lib.hid (refU_any _ hlt)
  by_cases h : 0 ≤ i
  · have e1 : IntKind.u64.wrap i = i := by simp [IntKind.wrap, IntKind.bits, IntKind.signed]; omega
    have e2 : IntKind.u64.wrap (2 * i) = 2 * i := by simp [IntKind.wrap, IntKind.bits, IntKind.signed]; omega
    have hj : (2 * i) = (intN i : Int) := by unfold intN; rw [if_neg (by omega)]; omega
    have HJ := Lib.hid hj
    clear hj hlt
    generalize numB (intN i) = t at *
    go_enter Try.func64, Try.ntmps64
    go_wp2_with (go_at_call 32; ((refine (C.out _ _ HJ.out).mono ?_); rintro e w1 ⟨v1, rfl, o1, k1⟩; have H1 := Lib.hid (And.intro o1 k1); clear o1 k1))
    go_ret
    exact ⟨v1, rfl, H1.out.1, H1.out.2⟩
  · have e0 : IntKind.i64.wrap (i + 1) = i + 1 := wI (by omega) (by omega)
    have e00 : IntKind.i64.wrap (-(i + 1)) = -(i + 1) := wI (by omega) (by omega)
    have e1 : IntKind.u64.wrap (-(i + 1)) = -(i + 1) := by simp [IntKind.wrap, IntKind.bits, IntKind.signed]; omega
    have e2 : IntKind.u64.wrap (2 * -(i + 1)) = 2 * -(i + 1) := by simp [IntKind.wrap, IntKind.bits, IntKind.signed]; omega
    have e3 : IntKind.u64.wrap (2 * -(i + 1) + 1) = 2 * -(i + 1) + 1 := by simp [IntKind.wrap, IntKind.bits, IntKind.signed]; omega
    have hj : (2 * -(i + 1) + 1) = (intN i : Int) := by unfold intN; rw [if_pos (by omega)]; omega
    have HJ := Lib.hid hj
    clear hj hlt
    generalize numB (intN i) = t at *
    go_enter Try.func64, Try.ntmps64
    go_wp2_with (go_at_call 32; ((refine (C.out _ _ HJ.out).mono ?_); rintro e w1 ⟨v1, rfl, o1, k1⟩; have H1 := Lib.hid (And.intro o1 k1); clear o1 k1))
    go_ret
    exact ⟨v1, rfl, H1.out.1, H1.out.2⟩
theorem refT_any (b : Bool) (w : World) : Calls Try.prog 63 #[.bool b] w fun e w' => Own w [if b then 1 else 0] e w' := by
  cases b with
  | true =>
    have O1 := Lib.hid (own1 w w.heap.size (Nat.le_refl _) 1 rfl)
    go_enter Try.func63, Try.ntmps63
    go_wp2
    go_ret
    exact ⟨_, rfl, O1.out, bAl (Below.refl _ _) _⟩
  | false =>
    have O1 := Lib.hid (own1 w w.heap.size (Nat.le_refl _) 0 rfl)
    go_enter Try.func63, Try.ntmps63
    go_wp2
    go_ret
    exact ⟨_, rfl, O1.out, bAl (Below.refl _ _) _⟩
set_option maxHeartbeats 2000000 in
theorem refS_any (s : Bs) (hs : s.length ≤ 900000) (w : World) : Calls Try.prog 62 #[str s] w fun e w' => Own w (numB s.length ++ s) e w' := by
  have e1 : IntKind.u64.wrap (s.length : Int) = (s.length : Int) := wU (by omega)
  have hz : (⟨s.toArray⟩ : ByteArray).size = s.length := by simp [ByteArray.size]
  have C := Lib.hid (refU_any s.length (by omega))
  have hlen := numB_len64 (n := s.length) (by omega)
  generalize numB s.length = t at *
  go_enter Try.func62, Try.ntmps62
  go_wp2_with (first
    | (go_at_call 32; ((refine (C.out _ _ (by first | rfl | simp [ByteArray.size])).mono ?_); rintro e w1 ⟨v1, rfl, o1, k1⟩; have O1 := Lib.hid o1; have K1 := Lib.hid k1; clear o1 k1))
    | (at_builtin; refine wpList_strK rfl (.tmp 6) (.tmp 7) rfl w.heap.size _ t rfl O1.out s rfl ?c1 ?c2 ?_))
  case c1 => omega
  case c2 => exact K1.out.size
  intro v' w5 o5 g5
  have b5 := Lib.hid (K1.out.grown g5 K1.out.size (fun a ha => (O1.out.lt a ha).1))
  have O5 := Lib.hid o5
  clear o5 g5
  go_wp2
  go_ret
  exact ⟨_, rfl, O5.out, b5.out⟩
end Go.Proofs.Ytkgjgbenfpkekaa.YX
