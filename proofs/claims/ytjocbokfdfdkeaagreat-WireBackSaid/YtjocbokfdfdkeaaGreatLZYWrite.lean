/-
  WALKS: Byte, Truth, Uint, Int, Text of a writer.
-/
import Derived.Test.YtjocbokfdfdkeaaGreatLZYAdd
namespace Go.Proofs.YtjocbokfdfdkeaaGreat.YX
open Go.RowKit HL
open IX (ptr El cellsK cellsK_at cellsK_len OwnK RdK Kept slice_toK slice_fromK)
set_option maxRecDepth 100000
set_option linter.unusedVariables false
set_option linter.unusedSimpArgs false

theorem ptr_inj {a b : Nat} (h : ptr a = ptr b) : a = b := by simpa using h
/-- A writer, or none. -/
def WPt (w : World) (v : Value) (s : Option Bs) : Prop := (v = .pointer none) ∨ ∃ B, v = ptr B ∧ WAt w B s
/-- What a call that writes comes to. -/
def Wr (w0 : World) (v : Value) (s : Option Bs) (e : Ending) (w' : World) : Prop := e = .returned (.tuple #[]) ∧ (v = .pointer none → Below w0.heap.size w0 w') ∧ ∀ B, v = ptr B → WAt w' B s ∧ Kept w0 w' (· ≠ B)
theorem add_any (v : Value) (s : Option Bs) (b : Bs) (A : Option Addr) (c : Nat) (w : World) (h : WPt w v s) (hr : RdK u8K w w.heap.size A b) (hA : ∀ B, v = ptr B → ∀ a, A = some a → a.block ≠ B) (hl : b.length ≤ 1000000) :
    Calls Tryz.prog 106 #[v, .slice A b.length c] w fun e w' => Wr w v (addW s b) e w' := by
  rcases h with rfl | ⟨B, rfl, h⟩
  · exact (add_nil _ w).mono fun e w' ⟨he, hw⟩ => ⟨he, fun _ => hw ▸ Below.refl _ _, fun B q => (by cases q)⟩
  · have pin : ∀ {s2 e w'}, e = .returned (.tuple #[]) → WAt w' B s2 → Kept w w' (· ≠ B) → Wr w (ptr B) s2 e w' := fun he h1 k1 => ⟨he, fun q => (by cases q), fun B2 q => by
      have : B = B2 := ptr_inj q
      subst this; exact ⟨h1, k1⟩⟩
    cases s with
    | none => exact (add_no B _ w h).mono fun e w' ⟨he, hw⟩ => by subst hw; exact pin he h (Kept.refl _ _)
    | some l =>
      unfold addW
      simp only
      split
      · rename_i hf
        exact (add_full B l A b.length c w h hl hf).mono fun e w' ⟨he, h1, k1⟩ => pin he h1 k1
      · rename_i hf
        exact (add_fit B l b A c w h hr (hA B rfl) (by omega)).mono fun e w' ⟨he, h1, k1⟩ => pin he h1 k1
theorem fail_any (v : Value) (s : Option Bs) (w : World) (h : WPt w v s) : Calls Tryz.prog 107 #[v] w fun e w' => Wr w v none e w' := by
  rcases h with rfl | ⟨B, rfl, h⟩
  · exact (wfail_nil w).mono fun e w' ⟨he, hw⟩ => ⟨he, fun _ => hw ▸ Below.refl _ _, fun B q => (by cases q)⟩
  · exact (wfail_any B s w h).mono fun e w' ⟨he, h1, k1⟩ => ⟨he, fun q => (by cases q), fun B2 q => by
      have : B = B2 := ptr_inj q
      subst this; exact ⟨h1, k1⟩⟩
theorem WPt.below {w w' : World} {v : Value} {s : Option Bs} (h : WPt w v s) (k : Below w.heap.size w w') : WPt w' v s := by
  rcases h with rfl | ⟨B, rfl, h⟩
  · exact .inl rfl
  · exact .inr ⟨B, rfl, h.below k⟩
theorem WPt.lt {w : World} {v : Value} {s : Option Bs} (h : WPt w v s) {B : Nat} (e : v = ptr B) : B < w.heap.size := by
  rcases h with rfl | ⟨B2, rfl, h⟩
  · cases e
  · have : B2 = B := ptr_inj e
    subst this; exact h.lt
/-- Memory was made ahead of the call. -/
theorem Wr.pre {w0 w1 : World} {v : Value} {s : Option Bs} {e : Ending} {w' : World} (h : Wr w1 v s e w') (k : Below w0.heap.size w0 w1) : Wr w0 v s e w' :=
  ⟨h.1, fun q => bThen k (h.2.1 q), fun B q => ⟨(h.2.2 B q).1, Kept.trans (.of_below k) (h.2.2 B q).2⟩⟩
set_option maxHeartbeats 1000000 in
theorem wByte_any (v : Value) (s : Option Bs) (n : Nat) (hn : n < 256) (w : World) (h : WPt w v s) : Calls Tryz.prog 80 #[v, .int .u8 n] w fun e w' => Wr w v (addW s [UInt8.ofNat n]) e w' := by
  obtain ⟨x, hx⟩ : ∃ x, x = UInt8.ofNat n := ⟨_, rfl⟩
  have hv : Value.int .u8 (n : Int) = YX.u8 x := by unfold YX.u8; rw [hx, u8n hn]
  rw [← hx, hv]
  clear hx hv
  have b1 := bAl (Below.refl w.heap.size w) (.cells #[YX.u8 x] 5)
  have C := Lib.hid (add_any v s [x] (some ⟨w.heap.size, 0, none⟩) 1 _ (h.below b1) (by have := rd1 w x rfl; simpa using this) (fun B e a q => by cases q; have := h.lt e; simp; omega) (by simp))
  have B1 := Lib.hid b1
  clear h b1
  simp only [List.length_singleton] at C
  generalize addW s [x] = s2 at *
  go_enter Tryz.func80, Tryz.ntmps80
  go_wp2_with (go_at_call 106; ((refine C.out.mono ?_); intro e w1 q; obtain ⟨rfl, q2, q3⟩ := (show Wr w v s2 e w1 from q.pre B1.out); have H1 := Lib.hid (And.intro q2 q3); clear q q2 q3))
  go_end0
  exact ⟨rfl, H1.out.1, H1.out.2⟩
set_option maxHeartbeats 1000000 in
theorem wTruth_any (v : Value) (s : Option Bs) (t : Bool) (w : World) (h : WPt w v s) : Calls Tryz.prog 86 #[v, .bool t] w fun e w' => Wr w v (addW s [if t then 1 else 0]) e w' := by
  have D := Lib.hid (fun (x : UInt8) => add_any v s [x] (some ⟨w.heap.size, 0, none⟩) 1 _ (h.below (bAl (Below.refl w.heap.size w) (.cells #[YX.u8 x] 5))) (by have := rd1 w x rfl; simpa using this) (fun B e a q => by cases q; have := h.lt e; simp; omega) (by simp))
  clear h
  cases t with
  | true =>
    have C := Lib.hid (D.out 1)
    have B1 := Lib.hid (bAl (Below.refl w.heap.size w) (.cells #[YX.u8 1] 5))
    clear D
    simp only [if_true, List.length_singleton] at *
    generalize addW s [1] = s2 at *
    go_enter Tryz.func86, Tryz.ntmps86
    go_wp2_with (go_at_call 106; ((refine C.out.mono ?_); intro e w1 q; obtain ⟨rfl, q2, q3⟩ := (show Wr w v s2 e w1 from q.pre B1.out); have H1 := Lib.hid (And.intro q2 q3); clear q q2 q3))
    first | go_end0 | (refine bodyPost_ret (results_none rfl _ _ _) rfl ?_)
    exact ⟨rfl, H1.out.1, H1.out.2⟩
  | false =>
    have C := Lib.hid (D.out 0)
    have B1 := Lib.hid (bAl (Below.refl w.heap.size w) (.cells #[YX.u8 0] 5))
    clear D
    simp only [Bool.false_eq_true, if_false, List.length_singleton] at *
    generalize addW s [0] = s2 at *
    go_enter Tryz.func86, Tryz.ntmps86
    go_wp2_with (go_at_call 106; ((refine C.out.mono ?_); intro e w1 q; obtain ⟨rfl, q2, q3⟩ := (show Wr w v s2 e w1 from q.pre B1.out); have H1 := Lib.hid (And.intro q2 q3); clear q q2 q3))
    first | go_end0 | (refine bodyPost_ret (results_none rfl _ _ _) rfl ?_)
    exact ⟨rfl, H1.out.1, H1.out.2⟩
set_option maxHeartbeats 1000000 in
theorem wUint_any (v : Value) (s : Option Bs) (n : Nat) (j : Int) (hj : j = n) (hn : n < 18446744073709551616) (w : World) (h : WPt w v s) : Calls Tryz.prog 87 #[v, .int .u64 j] w fun e w' => Wr w v (addW s (numB n)) e w' := by
  subst hj
  have CN := Lib.hid (number_any n hn w)
  have hlen := numB_len64 hn
  have CA := Lib.hid (fun (W : World) (k : Below w.heap.size w W) A c (hr : RdK u8K W W.heap.size A (numB n)) (hA : ∀ a, A = some a → w.heap.size ≤ a.block) => (add_any v s (numB n) A c W (h.below k) hr (fun B e a q => by have := h.lt e; have := hA a q; omega) (by omega)).mono (fun e w' q => q.pre k))
  clear h
  generalize addW s (numB n) = s2 at *
  go_enter Tryz.func87, Tryz.ntmps87
  go_wp2_with (first
    | (go_at_call 108; ((refine CN.out.mono ?_); rintro e w1 ⟨v1, rfl, o1, k1⟩; have hlt := o1.lt; obtain ⟨A, c, rfl, r1, _, _⟩ := o1.form; have C2 := Lib.hid (CA.out w1 k1 A c r1 (fun a q => (hlt a.block (by rw [q]; rfl)).1)); clear o1 r1 hlt k1))
    | (go_at_call 106; ((refine C2.out.mono ?_); rintro e w2 ⟨rfl, q2, q3⟩; have H1 := Lib.hid (And.intro q2 q3); clear q2 q3)))
  go_end0
  exact ⟨rfl, H1.out.1, H1.out.2⟩
set_option maxHeartbeats 1000000 in
theorem wInt_any (v : Value) (s : Option Bs) (i : Int) (h1 : -9223372036854775808 ≤ i) (h2 : i < 9223372036854775808) (w : World) (h : WPt w v s) : Calls Tryz.prog 85 #[v, .int .i64 i] w fun e w' => Wr w v (addW s (numB (intN i))) e w' := by
  have hlt := intN_lt h1 h2
  have C := Lib.hid (fun j (hj : j = ((intN i : Nat) : Int)) => wUint_any v s _ j hj hlt w h)
  clear h
  generalize addW s (numB (intN i)) = s2 at *
  by_cases hi : i < 0
  · have e0 : IntKind.i64.wrap (i + 1) = i + 1 := wI (by omega) (by omega)
    have e00 : IntKind.i64.wrap (-(i + 1)) = -(i + 1) := wI (by omega) (by omega)
    have e1 : IntKind.u64.wrap (-(i + 1)) = -(i + 1) := by simp [IntKind.wrap, IntKind.bits, IntKind.signed]; omega
    have e2 : IntKind.u64.wrap (2 * -(i + 1)) = 2 * -(i + 1) := by simp [IntKind.wrap, IntKind.bits, IntKind.signed]; omega
    have e3 : IntKind.u64.wrap (2 * -(i + 1) + 1) = 2 * -(i + 1) + 1 := by simp [IntKind.wrap, IntKind.bits, IntKind.signed]; omega
    have hj : (2 * -(i + 1) + 1) = (intN i : Int) := by unfold intN; rw [if_pos (by omega)]; omega
    have HJ := Lib.hid hj
    clear hj hlt
    go_enter Tryz.func85, Tryz.ntmps85
    go_wp2_with (go_at_call 87; ((refine (C.out _ HJ.out).mono ?_); rintro e w1 ⟨rfl, q2, q3⟩; have H1 := Lib.hid (And.intro q2 q3); clear q2 q3))
    first | go_end0 | (refine bodyPost_ret (results_none rfl _ _ _) rfl ?_)
    exact ⟨rfl, H1.out.1, H1.out.2⟩
  · have e1 : IntKind.u64.wrap i = i := by simp [IntKind.wrap, IntKind.bits, IntKind.signed]; omega
    have e2 : IntKind.u64.wrap (2 * i) = 2 * i := by simp [IntKind.wrap, IntKind.bits, IntKind.signed]; omega
    have hj : (2 * i) = (intN i : Int) := by unfold intN; rw [if_neg (by omega)]; omega
    have HJ := Lib.hid hj
    clear hj hlt
    go_enter Tryz.func85, Tryz.ntmps85
    go_wp2_with (go_at_call 87; ((refine (C.out _ HJ.out).mono ?_); rintro e w1 ⟨rfl, q2, q3⟩; have H1 := Lib.hid (And.intro q2 q3); clear q2 q3))
    first | go_end0 | (refine bodyPost_ret (results_none rfl _ _ _) rfl ?_)
    exact ⟨rfl, H1.out.1, H1.out.2⟩
set_option maxHeartbeats 1000000 in
theorem wText_any (v : Value) (s : Option Bs) (t : Bs) (w : World) (ht : t.length ≤ 900000) (h : WPt w v s) : Calls Tryz.prog 81 #[v, str t] w fun e w' => Wr w v (if 255 < t.length then none else addW s (numB t.length ++ t)) e w' := by
  have hz : (⟨t.toArray⟩ : ByteArray).size = t.length := by simp [ByteArray.size]
  by_cases hl : 255 < t.length
  · rw [if_pos hl]
    have i1 : (255 : Int) < (t.length : Int) := by omega
    have C := Lib.hid (fail_any v s w h)
    clear h
    go_enter Tryz.func81, Tryz.ntmps81
    go_wp2_with (go_at_call 107; ((refine C.out.mono ?_); rintro e w1 ⟨rfl, q2, q3⟩; have H1 := Lib.hid (And.intro q2 q3); clear q2 q3))
    first | go_end0 | (refine bodyPost_ret (results_none rfl _ _ _) rfl ?_)
    exact ⟨rfl, H1.out.1, H1.out.2⟩
  · rw [if_neg hl]
    have i1 : ¬ (255 : Int) < (t.length : Int) := by omega
    have e1 : IntKind.u64.wrap (t.length : Int) = (t.length : Int) := wU (by omega)
    have CN := Lib.hid (number_any t.length (by omega) w)
    have hlen := numB_len64 (n := t.length) (by omega)
    have CA := Lib.hid (fun (W : World) (k : Below w.heap.size w W) A c (hr : RdK u8K W W.heap.size A (numB t.length ++ t)) (hA : ∀ a, A = some a → w.heap.size ≤ a.block) => (add_any v s (numB t.length ++ t) A c W (h.below k) hr (fun B e a q => by have := h.lt e; have := hA a q; omega) (by rw [List.length_append]; omega)).mono (fun e w' q => q.pre k))
    clear h
    generalize addW s (numB t.length ++ t) = s2 at *
    generalize numB t.length = u at *
    go_enter Tryz.func81, Tryz.ntmps81
    go_wp2_with (first
      | (go_at_call 108; ((refine CN.out.mono ?_); rintro e w1 ⟨v1, rfl, o1, k1⟩; have O1 := Lib.hid o1; have K1 := Lib.hid k1; clear o1 k1))
      | (at_builtin; refine wpList_strK rfl (.tmp 13) (.tmp 14) rfl w.heap.size _ u rfl O1.out t rfl ?c1 ?c2 ?_))
    case c1 => omega
    case c2 => exact K1.out.size
    intro v' w5 o5 g5
    have b5 := K1.out.grown g5 K1.out.size (fun a ha => (O1.out.lt a ha).1)
    have hlt := o5.lt
    obtain ⟨A, c, rfl, r5, _, _⟩ := o5.form
    have C2 := Lib.hid (CA.out w5 b5 A c r5 (fun a q => (hlt a.block (by rw [q]; rfl)).1))
    rw [List.length_append] at C2
    clear o5 g5 r5 hlt b5
    go_wp2_with (go_at_call 106; ((refine C2.out.mono ?_); rintro e w2 ⟨rfl, q2, q3⟩; have H1 := Lib.hid (And.intro q2 q3); clear q2 q3))
    go_end0
    exact ⟨rfl, H1.out.1, H1.out.2⟩
end Go.Proofs.YtjocbokfdfdkeaaGreat.YX
