/-
  WALKS: the document's Uint, Int, Truth, Text.
-/
import Derived.Test.YtjocbokfdfdkeaaGreatLZYNum
import Derived.Deep.RegionHeld3
namespace Go.Proofs.YtjocbokfdfdkeaaGreat.YX
open Go.RowKit HL
open IX (ptr El cellsK cellsK_at cellsK_len OwnK RdK Kept slice_toK slice_fromK)
set_option maxRecDepth 100000
set_option linter.unusedVariables false
set_option linter.unusedSimpArgs false

/-- A row of bytes of one's own is told. -/
def Own (w0 : World) (l : Bs) (e : Ending) (w' : World) : Prop := ∃ v, e = .returned v ∧ OwnK u8K w' w0.heap.size v l ∧ Below w0.heap.size w0 w'
set_option maxHeartbeats 2000000 in
theorem refU_any : ∀ (n : Nat), n < 18446744073709551616 → ∀ (j : Int) (w : World), j = n → Calls Tryz.prog 33 #[.int .u64 j] w fun e w' => Own w (numB n) e w' := by
  intro n
  induction n using Nat.strongRecOn with
  | ind n ih =>
    intro hn j w hj
    subst hj
    by_cases h : n < 128
    · have i1 : (n : Int) < 128 := by omega
      have e1 : IntKind.u8.wrap (n : Int) = (n : Int) := by simp [IntKind.wrap, IntKind.bits, IntKind.signed]; omega
      obtain ⟨x, hx⟩ : ∃ x, x = UInt8.ofNat n := ⟨_, rfl⟩
      have hv : Value.int .u8 (n : Int) = YX.u8 x := by unfold YX.u8; rw [hx, u8n (by omega)]
      have HX := Lib.hid (show [x] = numB n by rw [numB_lo h, hx])
      clear hx ih
      go_enter Tryz.func33, Tryz.ntmps33
      go_wp2
      go_ret
      exact ⟨_, rfl, by rw [← HX.out]; exact own1 w _ (Nat.le_refl _) x rfl, bAl (Below.refl _ _) _⟩
    · have i1 : ¬ (n : Int) < 128 := by omega
      have e1 : IntKind.u8.wrap ((n : Int) % 128) = (n : Int) % 128 := by simp [IntKind.wrap, IntKind.bits, IntKind.signed]; omega
      have e2 : IntKind.u8.wrap ((n : Int) % 128 + 128) = (n : Int) % 128 + 128 := by simp [IntKind.wrap, IntKind.bits, IntKind.signed]; omega
      have C := Lib.hid (ih (n / 128) (by omega) (by omega))
      have hlen := numB_len64 (n := n / 128) (by omega)
      obtain ⟨x, hx⟩ : ∃ x, x = UInt8.ofNat (n % 128 + 128) := ⟨_, rfl⟩
      have hv : Value.int .u8 ((n : Int) % 128 + 128) = YX.u8 x := by unfold YX.u8; rw [hx, u8n (by omega)]; simp
      have HX := Lib.hid (show x :: numB (n / 128) = numB n by rw [numB_hi h, hx])
      have O1 := Lib.hid (own1 w w.heap.size (Nat.le_refl _) x rfl)
      clear hx ih
      generalize numB (n / 128) = t at *
      go_enter Tryz.func33, Tryz.ntmps33
      go_wp2_with (first
        | (go_at_call 33; ((refine (C.out _ _ (by simp)).mono ?_); rintro e w1 ⟨v1, rfl, o1, k1⟩; obtain ⟨A1, c1, rfl, r1, _, _⟩ := o1.form; have R1 := Lib.hid r1; have K1 := Lib.hid k1; have O2 := Lib.hid (O1.out.below k1); clear o1 r1 k1))
        | (at_builtin; refine IX.wpList_spreadK u8K rfl (.tmp 12) (.tmp 15) rfl w.heap.size _ [x] rfl O2.out w1.heap.size A1 t.length c1 t rfl rfl R1.out ?c1 ?c2 ?_))
      case c1 => first | omega | (simp; omega)
      case c2 => exact Nat.le_trans (by simp) K1.out.size
      intro v' w5 o5 g5 f5
      have b5 := Lib.hid ((bThen (bAl (Below.refl w.heap.size w) (.cells #[YX.u8 x] 5)) K1.out).grown g5 (Nat.le_trans (by simp) K1.out.size) (fun a ha => (O2.out.lt a ha).1))
      have O5 := Lib.hid o5
      clear o5 g5
      go_wp2
      go_ret
      exact ⟨_, rfl, by rw [← HX.out]; exact O5.out, b5.out⟩
/-- A row of one's own of a callee's. -/
theorem Own.mono {w0 w1 : World} {l : Bs} {e : Ending} {w' : World} (h : Own w1 l e w') (k : Below w0.heap.size w0 w1) : Own w0 l e w' := by
  obtain ⟨v, h1, h2, h3⟩ := h
  exact ⟨v, h1, h2.base k.size, bThen k h3⟩
set_option maxHeartbeats 2000000 in
theorem refI_any (i : Int) (h1 : -9223372036854775808 ≤ i) (h2 : i < 9223372036854775808) (w : World) : Calls Tryz.prog 35 #[.int .i64 i] w fun e w' => Own w (numB (intN i)) e w' := by
  have hlt := intN_lt h1 h2
  have C := Lib.hid (refU_any _ hlt)
  by_cases h : 0 ≤ i
  · have e1 : IntKind.u64.wrap i = i := by simp [IntKind.wrap, IntKind.bits, IntKind.signed]; omega
    have e2 : IntKind.u64.wrap (2 * i) = 2 * i := by simp [IntKind.wrap, IntKind.bits, IntKind.signed]; omega
    have hj : (2 * i) = (intN i : Int) := by unfold intN; rw [if_neg (by omega)]; omega
    have HJ := Lib.hid hj
    clear hj hlt
    generalize numB (intN i) = t at *
    go_enter Tryz.func35, Tryz.ntmps35
    go_wp2_with (go_at_call 33; ((refine (C.out _ _ HJ.out).mono ?_); rintro e w1 ⟨v1, rfl, o1, k1⟩; have H1 := Lib.hid (And.intro o1 k1); clear o1 k1))
    go_ret
    exact ⟨v1, rfl, H1.out.1, H1.out.2⟩
  · have e0 : IntKind.i64.wrap (i + 1) = i + 1 := wI (by omega) (by omega)
    have e00 : IntKind.i64.wrap (-(i + 1)) = -(i + 1) := wI (by omega) (by omega)
    have e1 : IntKind.u64.wrap (-(i + 1)) = -(i + 1) := by simp [IntKind.wrap, IntKind.bits, IntKind.signed]; omega
    have e2 : IntKind.u64.wrap (2 * -(i + 1)) = 2 * -(i + 1) := by simp [IntKind.wrap, IntKind.bits, IntKind.signed]; omega
    have e3 : IntKind.u64.wrap (2 * -(i + 1) + 1) = 2 * -(i + 1) + 1 := by simp [IntKind.wrap, IntKind.bits, IntKind.signed]; omega
    have hj : (2 * -(i + 1) + 1) = (intN i : Int) := by unfold intN; rw [if_pos (by omega)]; omega
    have HJ := Lib.hid hj
    clear hj hlt
    generalize numB (intN i) = t at *
    go_enter Tryz.func35, Tryz.ntmps35
    go_wp2_with (go_at_call 33; ((refine (C.out _ _ HJ.out).mono ?_); rintro e w1 ⟨v1, rfl, o1, k1⟩; have H1 := Lib.hid (And.intro o1 k1); clear o1 k1))
    go_ret
    exact ⟨v1, rfl, H1.out.1, H1.out.2⟩
theorem refT_any (b : Bool) (w : World) : Calls Tryz.prog 36 #[.bool b] w fun e w' => Own w [if b then 1 else 0] e w' := by
  cases b with
  | true =>
    have O1 := Lib.hid (own1 w w.heap.size (Nat.le_refl _) 1 rfl)
    go_enter Tryz.func36, Tryz.ntmps36
    go_wp2
    go_ret
    exact ⟨_, rfl, O1.out, bAl (Below.refl _ _) _⟩
  | false =>
    have O1 := Lib.hid (own1 w w.heap.size (Nat.le_refl _) 0 rfl)
    go_enter Tryz.func36, Tryz.ntmps36
    go_wp2
    go_ret
    exact ⟨_, rfl, O1.out, bAl (Below.refl _ _) _⟩
set_option maxHeartbeats 2000000 in
theorem refS_any (s : Bs) (hs : s.length ≤ 900000) (w : World) : Calls Tryz.prog 32 #[str s] w fun e w' => Own w (numB s.length ++ s) e w' := by
  have e1 : IntKind.u64.wrap (s.length : Int) = (s.length : Int) := wU (by omega)
  have hz : (⟨s.toArray⟩ : ByteArray).size = s.length := by simp [ByteArray.size]
  have C := Lib.hid (refU_any s.length (by omega))
  have hlen := numB_len64 (n := s.length) (by omega)
  generalize numB s.length = t at *
  go_enter Tryz.func32, Tryz.ntmps32
  go_wp2_with (first
    | (go_at_call 33; ((refine (C.out _ _ (by first | rfl | simp [ByteArray.size])).mono ?_); rintro e w1 ⟨v1, rfl, o1, k1⟩; have O1 := Lib.hid o1; have K1 := Lib.hid k1; clear o1 k1))
    | (at_builtin; refine wpList_strK rfl (.tmp 6) (.tmp 7) rfl w.heap.size _ t rfl O1.out s rfl ?c1 ?c2 ?_))
  case c1 => omega
  case c2 => exact K1.out.size
  intro v' w5 o5 g5
  have b5 := Lib.hid (K1.out.grown g5 K1.out.size (fun a ha => (O1.out.lt a ha).1))
  have O5 := Lib.hid o5
  clear o5 g5
  go_wp2
  go_ret
  exact ⟨_, rfl, O5.out, b5.out⟩
end Go.Proofs.YtjocbokfdfdkeaaGreat.YX
/-
  WALKS: the document's reader: fail, Byte, Truth, Uint, Int, Text, Done.
-/
namespace Go.Proofs.YtjocbokfdfdkeaaGreat.YX
open Go.RowKit HL
open IX (ptr El cellsK cellsK_at cellsK_len OwnK RdK Kept slice_toK slice_fromK)
set_option maxRecDepth 100000
set_option linter.unusedVariables false
set_option linter.unusedSimpArgs false

theorem rfail_any (B : Nat) (w : World) (h : Bad w B) : Calls Tryz.prog 75 #[ptr B] w fun e w' => e = .returned (.tuple #[]) ∧ RAt w' B none ∧ Kept w w' (· ≠ B) := by
  obtain ⟨x, y, h1⟩ := h
  have c0 := h1.c 0
  have c1 := h1.c 1
  have f0 := h1.f 0
  have f1 := h1.f 1
  have H : Hid (RAt ((w.setCell ⟨B, 1, none⟩ (.bool true)).setCell ⟨B, 0, none⟩ (.slice none 0 0)) B none) := Lib.hid ((h1.set (i := 1) (by simp) _).set (i := 0) (by simp) _)
  clear h1
  go_enter Tryz.func75, Tryz.ntmps75
  go_wp2
  go_end0
  exact ⟨rfl, H.out, kset2 (kset _) _⟩
set_option maxHeartbeats 1000000 in
theorem rByte_any (B : Nat) (s : Option Bs) (w : World) (h : RAt w B s) : Calls Tryz.prog 49 #[ptr B] w fun e w' => e = .returned (.int .u8 ((told (0 : Nat) rdB s : Nat) : Int)) ∧ RAt w' B (rest rdB s) ∧ Kept w w' (· ≠ B) := by
  have CF := Lib.hid (rfail_any B w h.bad)
  cases s with
  | none =>
    have h : AtC w B #[.slice none 0 0, .bool true] := h
    have c0 := h.c 0
    clear h
    go_enter Tryz.func49, Tryz.ntmps49
    go_wp2_with (go_at_call 75; ((refine CF.out.mono ?_); rintro e w1 ⟨rfl, h1, k1⟩; have H1 := Lib.hid (And.intro h1 k1); clear h1 k1))
    go_ret
    exact ⟨rfl, H1.out.1, H1.out.2⟩
  | some l =>
    obtain ⟨A, c, h1, h2, h3⟩ := h
    cases l with
    | nil =>
      have c0 := h1.c 0
      simp only [List.length_nil] at c0
      clear h1 h2
      go_enter Tryz.func49, Tryz.ntmps49
      go_wp2_with (go_at_call 75; ((refine CF.out.mono ?_); rintro e w1 ⟨rfl, h1, k1⟩; have H1 := Lib.hid (And.intro h1 k1); clear h1 k1))
      go_ret
      exact ⟨rfl, H1.out.1, H1.out.2⟩
    | cons b r =>
      have hl : (b :: r).length = r.length + 1 := rfl
      obtain ⟨A2, c2, s1, s2, s3, _⟩ := slice_fromK u8K (c := c) h2 rfl (show 1 ≤ (b :: r).length by simp) h3
      rw [hl] at s1 s3 h1 h3
      have hs1 : ∀ W, (Instr.slice 39 (.slice A (r.length + 1) c) (some (.int .i64 1)) none none).run Tryz.prog W = .ok (.slice A2 r.length c2) W := fun W => s1 W
      have c0 := h1.c 0
      have f0 := h1.f 0
      obtain ⟨b1, off, rfl, hb, hc⟩ := (rdY h2).at_ (by simp)
      have cc := hc 0 b rfl
      simp only [Nat.add_zero] at cc
      have H : Hid (RAt (w.setCell ⟨B, 0, none⟩ (.slice A2 r.length c2)) B (some r)) := Lib.hid (rat_set h1 rfl (by simpa using s2 w h2) rfl (by omega))
      have i1 : ¬ ((r.length : Int) + 1 = 0) := by omega
      have i2 : ((r.length : Int) + 1 == 0) = false := by simpa using i1
      have i3 : (0 : Int) < (r.length : Int) + 1 := by omega
      clear h1 h2 s1 s2 hc hl CF
      generalize r.length = n at *
      go_enter Tryz.func49, Tryz.ntmps49
      go_wp2
      go_ret
      exact ⟨rfl, H.out, kset _⟩
set_option maxHeartbeats 1000000 in
theorem rTruth_any (B : Nat) (s : Option Bs) (w : World) (h : RAt w B s) : Calls Tryz.prog 54 #[ptr B] w fun e w' => e = .returned (.bool (told (0 : Nat) rdT s == 1)) ∧ RAt w' B (rest rdT s) ∧ Kept w w' (· ≠ B) := by
  have C := Lib.hid (rByte_any B s w h)
  have CF := Lib.hid (fun (W : World) (q : Bad W B) => rfail_any B W q)
  clear h
  by_cases hb : (told (0 : Nat) rdB s) ≤ 1
  · have i1 : ¬ (1 : Int) < ((told (0 : Nat) rdB s : Nat) : Int) := by omega
    have i2 : (((told (0 : Nat) rdB s : Nat) : Int) == 1) = (told (0 : Nat) rdB s == 1) := by rw [Bool.eq_iff_iff]; simp; omega
    have e1 : told (0 : Nat) rdB s = told (0 : Nat) rdT s := by
      cases s with
      | none => rfl
      | some l =>
        cases l with
        | nil => rfl
        | cons b r => have hb : b.toNat ≤ 1 := hb; simp [told, rdB, rdT, hb]
    have e2 : rest rdB s = rest rdT s ∨ (rest rdB s = none ∧ rest rdT s = none) := by
      cases s with
      | none => exact .inl rfl
      | some l =>
        cases l with
        | nil => exact .inl rfl
        | cons b r => have hb : b.toNat ≤ 1 := hb; simp [rest, rdB, rdT, hb]
    have e3 : rest rdB s = rest rdT s := by rcases e2 with h | ⟨h1, h2⟩ <;> simp_all
    rw [e3] at C
    rw [e1] at C i1 i2
    clear e1 e2 e3 hb
    generalize told (0 : Nat) rdT s = n at *
    go_enter Tryz.func54, Tryz.ntmps54
    go_wp2_with (go_at_call 49; ((refine C.out.mono ?_); rintro e w1 ⟨rfl, h1, k1⟩; have H1 := Lib.hid (And.intro h1 k1); clear h1 k1))
    go_ret
    exact ⟨by first | rfl | simp [i2], H1.out.1, H1.out.2⟩
  · have i1 : (1 : Int) < ((told (0 : Nat) rdB s : Nat) : Int) := by omega
    have e1 : told (0 : Nat) rdT s = 0 ∧ rest rdT s = none := by
      cases s with
      | none => exact ⟨rfl, rfl⟩
      | some l =>
        cases l with
        | nil => exact ⟨rfl, rfl⟩
        | cons b r => have hb : ¬ b.toNat ≤ 1 := hb; simp [told, rest, rdT, hb]
    rw [e1.1, e1.2]
    clear e1 hb
    generalize told (0 : Nat) rdB s = n at *
    go_enter Tryz.func54, Tryz.ntmps54
    go_wp2_with (first
      | (go_at_call 49; ((refine C.out.mono ?_); rintro e w1 ⟨rfl, h1, k1⟩; have H1 := Lib.hid (And.intro h1 k1); clear h1 k1))
      | (go_at_call 75; ((refine (CF.out _ H1.out.1.bad).mono ?_); rintro e w2 ⟨rfl, h2, k2⟩; have H2 := Lib.hid (And.intro h2 (H1.out.2.trans k2)); clear h2 k2)))
    go_ret
    exact ⟨rfl, H2.out.1, H2.out.2⟩
theorem rDone_any (B : Nat) (s : Option Bs) (w : World) (h : RAt w B s) : Calls Tryz.prog 55 #[ptr B] w fun e w' => e = .returned (.bool (doneB s)) ∧ w = w' := by
  cases s with
  | none =>
    have h : AtC w B #[.slice none 0 0, .bool true] := h
    have c1 := h.c 1
    have hd : doneB none = false := rfl
    rw [hd]
    clear h
    go_enter Tryz.func55, Tryz.ntmps55
    go_wp2
    go_ret
    exact ⟨rfl, rfl⟩
  | some l =>
    obtain ⟨A, c, h1, h2, h3⟩ := h
    have c0 := h1.c 0
    have c1 := h1.c 1
    clear h1 h2
    have hd : ((l.length : Int) == 0) = doneB (some l) := by
      unfold doneB
      cases l with
      | nil => rfl
      | cons x l => rw [Bool.eq_iff_iff]; simp; omega
    rw [← hd]
    clear hd
    generalize l.length = n at *
    go_enter Tryz.func55, Tryz.ntmps55
    go_wp2
    go_ret
    exact ⟨rfl, rfl⟩
end Go.Proofs.YtjocbokfdfdkeaaGreat.YX
/-
  WALKS: the document's reader: Uint, Int, Text.
-/
namespace Go.Proofs.YtjocbokfdfdkeaaGreat.YX
open Go.RowKit HL
open IX (ptr El cellsK cellsK_at cellsK_len OwnK RdK Kept slice_toK slice_fromK)
set_option maxRecDepth 100000
set_option linter.unusedVariables false
set_option linter.unusedSimpArgs false

/-- What bytes are worth, seven bits each. -/
def valP : Bs → Nat
  | [] => 0
  | b :: r => b.toNat % 128 + 128 * valP r
theorem valP_snoc (l : Bs) (b : UInt8) : valP (l ++ [b]) = valP l + b.toNat % 128 * 128 ^ l.length := by
  induction l with
  | nil => simp [valP]
  | cons x l ih =>
    simp only [List.cons_append, valP, ih, List.length_cons, Nat.pow_succ]
    rw [Nat.mul_add, ← Nat.add_assoc, Nat.mul_comm (128 ^ l.length) 128, Nat.mul_left_comm]
theorem numB_form : ∀ n : Nat, ∃ t b, numB n = t ++ [b] ∧ b.toNat < 128 ∧ (∀ x ∈ t, 128 ≤ x.toNat) ∧ valP (numB n) = n := by
  intro n
  induction n using Nat.strongRecOn with
  | ind n ih =>
    by_cases h : n < 128
    · refine ⟨[], UInt8.ofNat n, by rw [numB_lo h]; rfl, by rw [u8n (by omega)]; exact h, by simp, ?_⟩
      rw [numB_lo h]; simp only [valP]; rw [u8n (by omega)]; omega
    · obtain ⟨t, b, e, hb, ht, hv⟩ := ih (n / 128) (by omega)
      refine ⟨UInt8.ofNat (n % 128 + 128) :: t, b, by rw [numB_hi h, e]; rfl, hb, fun x hx => ?_, ?_⟩
      · rcases List.mem_cons.1 hx with rfl | hx
        · rw [u8n (by omega)]; omega
        · exact ht x hx
      · rw [numB_hi h]; simp only [valP]; rw [u8n (by omega), hv]; omega
/-- Of no number: the first bytes have all more behind them. -/
theorem rdU_none {l : Bs} {k : Nat} (hk : k = 10 ∨ k = l.length) (h : ∀ x ∈ l.take k, 128 ≤ x.toNat) : rdU l = none := by
  cases e : rdU l with
  | none => rfl
  | some y =>
    obtain ⟨v, r⟩ := y
    obtain ⟨e1, hv⟩ := rdU_inv e
    obtain ⟨t, b, e2, hb, ht, _⟩ := numB_form v
    have hlen := numB_len64 hv
    rw [e2, List.length_append] at hlen
    simp at hlen
    have hle : (t ++ [b]).length ≤ k := by
      rcases hk with rfl | rfl
      · simp; omega
      · rw [e1, e2]; simp
    have hm : b ∈ l.take k := by
      rw [e1, e2, List.take_append, List.take_of_length_le hle]
      simp
    have := h b hm
    omega
/-- At the first byte behind which there is none more. -/
theorem rdU_first {l : Bs} {k : Nat} (hk : k < 10) (hl : k < l.length) (h : ∀ x ∈ l.take k, 128 ≤ x.toNat) (hb : l[k].toNat < 128) :
    rdU l = if numB (valP (l.take (k + 1)) % 18446744073709551616) = l.take (k + 1) then some (valP (l.take (k + 1)) % 18446744073709551616, l.drop (k + 1)) else none := by
  split
  · rename_i e
    have := rdU_num (n := valP (l.take (k + 1)) % 18446744073709551616) (Nat.mod_lt _ (by decide)) (l.drop (k + 1))
    rw [e, List.take_append_drop] at this
    exact this
  · rename_i e
    cases q : rdU l with
    | none => rfl
    | some y =>
      exfalso
      apply e
      obtain ⟨v, r⟩ := y
      obtain ⟨e1, hv⟩ := rdU_inv q
      obtain ⟨t, b, e2, hb2, ht, hval⟩ := numB_form v
      have hk2 : t.length = k := by
        rcases Nat.lt_trichotomy t.length k with q | q | q
        · exfalso
          have hm : b ∈ l.take k := by
            rw [e1, e2, List.take_append, List.take_of_length_le (by simp; omega)]
            simp
          have := h b hm
          omega
        · exact q
        · exfalso
          have hm : l[k] ∈ t := by
            have : l[k]? = t[k]? := by
              rw [e1, e2, List.append_assoc, List.getElem?_append_left q]
            rw [List.getElem?_eq_getElem hl, List.getElem?_eq_getElem q] at this
            simp only [Option.some.injEq] at this
            rw [this]; exact List.getElem_mem q
          have := ht _ hm
          omega
      have e3 : l.take (k + 1) = numB v := by
        rw [e1, List.take_append, e2, List.take_of_length_le (by simp; omega)]
        simp [hk2]
      rw [e3, hval, Nat.mod_eq_of_lt hv]
/-- One byte more, as the loop reckons. -/
theorem val_next (l : Bs) (b : UInt8) :
    IntKind.u64.wrap (((valP l % 18446744073709551616 : Nat) : Int) + IntKind.u64.wrap ((b.toNat : Int) % 128 * ((128 ^ l.length % 18446744073709551616 : Nat) : Int))) = ((valP (l ++ [b]) % 18446744073709551616 : Nat) : Int) := by
  have e : ∀ x : Nat, IntKind.u64.wrap (x : Int) = ((x % 18446744073709551616 : Nat) : Int) := fun x => by
    simp [IntKind.wrap, IntKind.bits, IntKind.signed]
  have e1 : ((b.toNat : Int) % 128 * ((128 ^ l.length % 18446744073709551616 : Nat) : Int)) = ((b.toNat % 128 * (128 ^ l.length % 18446744073709551616) : Nat) : Int) := by rw [Int.natCast_mul]; rfl
  rw [e1, e, ← Int.natCast_add, e, valP_snoc]
  congr 1
  rw [Nat.add_mod, Nat.mod_mod, Nat.mod_mod, Nat.add_mod (valP l), Nat.mul_mod (b.toNat % 128) (128 ^ l.length), Nat.mul_mod (b.toNat % 128) (128 ^ l.length % 18446744073709551616), Nat.mod_mod]
theorem unit_next (k : Nat) : IntKind.u64.wrap (((128 ^ k % 18446744073709551616 : Nat) : Int) * 128) = ((128 ^ (k + 1) % 18446744073709551616 : Nat) : Int) := by
  have e : ∀ x : Nat, IntKind.u64.wrap (x : Int) = ((x % 18446744073709551616 : Nat) : Int) := fun x => by
    simp [IntKind.wrap, IntKind.bits, IntKind.signed]
  have e1 : (((128 ^ k % 18446744073709551616 : Nat) : Int) * 128) = (((128 ^ k % 18446744073709551616) * 128 : Nat) : Int) := by rw [Int.natCast_mul]; rfl
  rw [e1, e, Nat.pow_succ]
  congr 1
  rw [Nat.mul_mod, Nat.mod_mod, ← Nat.mul_mod]
theorem eq_str {X Y : Bs} (h : X ≠ Y) : ((⟨X.toArray⟩ : ByteArray).toList == (⟨Y.toArray⟩ : ByteArray).toList) = false := by
  rw [ByteArray.toList_eq, ByteArray.toList_eq]
  simpa using h
theorem bD1 (w : World) : Below w.heap.size w w.drew := ⟨rfl, rfl, rfl, Nat.le_refl _, fun _ _ => rfl⟩
theorem told_none {α : Type} (z : α) {f : Bs → Option (α × Bs)} {l : Bs} (h : f l = none) : told z f (some l) = z ∧ rest f (some l) = none := by simp [told, rest, h]
theorem told_some {α : Type} (z : α) {f : Bs → Option (α × Bs)} {l : Bs} {v : α} {r : Bs} (h : f l = some (v, r)) : told z f (some l) = v ∧ rest f (some l) = some r := by simp [told, rest, h]
set_option maxHeartbeats 4000000 in
theorem rUint_no (B : Nat) (w : World) (h : RAt w B none) : Calls Tryz.prog 51 #[ptr B] w fun e w' => e = .returned (vU 0) ∧ RAt w' B none ∧ Kept w w' (· ≠ B) := by
  have CF := Lib.hid (rfail_any B w h.bad)
  have h : AtC w B #[.slice none 0 0, .bool true] := h
  have c0 := h.c 0
  clear h
  go_enter Tryz.func51, Tryz.ntmps51
  go_wp2
  go_loopw [5] (fun n wr => n = .int .i64 0 ∧ wr = w) (fun n _ => 0)
  case atStart => exact ⟨rfl, rfl⟩
  case round =>
    obtain ⟨rfl, rfl⟩ := hrel
    go_wp2_with (go_at_call 75; ((refine CF.out.mono ?_); rintro e w1 ⟨rfl, h1, k1⟩; have H1 := Lib.hid (And.intro h1 k1); clear h1 k1))
    go_ret
    exact ⟨rfl, H1.out.1, H1.out.2⟩
set_option maxHeartbeats 8000000 in
theorem rUint_some (B : Nat) (l : Bs) (w : World) (h : RAt w B (some l)) (hmax : l.length ≤ 1000000) : Calls Tryz.prog 51 #[ptr B] w fun e w' => e = .returned (vU (told (0 : Nat) rdU (some l))) ∧ RAt w' B (rest rdU (some l)) ∧ Kept w w' (· ≠ B) := by
  have CF := Lib.hid (fun (W : World) (q : Bad W B) => rfail_any B W q)
  have CU := Lib.hid (fun n (q : n < 18446744073709551616) => refU_any n q)
  have HR := Lib.hid h
  obtain ⟨A, c, h1, h2, h3⟩ := h
  have H := Lib.hid (And.intro h1 h2)
  clear h1 h2
  obtain ⟨tv, htv⟩ : ∃ v, told (0 : Nat) rdU (some l) = v := ⟨_, rfl⟩
  obtain ⟨ts, hts⟩ : ∃ s, rest rdU (some l) = s := ⟨_, rfl⟩
  rw [htv, hts]
  have HTV := Lib.hid (And.intro htv hts)
  clear htv hts
  go_enter Tryz.func51, Tryz.ntmps51
  go_wp2
  go_loopw [3, 4, 5] (fun nv uv iv wr => ∃ k : Nat, k ≤ 10 ∧ k ≤ l.length ∧ nv = .int .u64 ((valP (l.take k) % 18446744073709551616 : Nat) : Int) ∧ uv = .int .u64 ((128 ^ k % 18446744073709551616 : Nat) : Int) ∧ iv = .int .i64 k ∧ Hid (∀ x ∈ l.take k, 128 ≤ x.toNat) ∧ Below w.heap.size w wr) (fun _ _ iv _ => 10 - (intOf iv).toNat)
  case atStart => exact ⟨0, by omega, by omega, by simp [valP], by simp, rfl, Lib.hid (by simp), Below.refl _ _⟩
  case round =>
    obtain ⟨k, hk, hkl, rfl, rfl, rfl, HN, k1⟩ := hrel
    have K1 := Lib.hid k1
    have hr := H.out.1.then k1
    have c0 := hr.c 0
    have f0 := hr.f 0
    have HRr := Lib.hid (HR.out.below k1)
    have HA := Lib.hid (And.intro hr (H.out.2.below (k1.mono (Nat.le_of_lt H.out.1.lt))))
    clear hr k1
    by_cases hend : k = 10 ∨ k = l.length
    · have hnone := rdU_none hend HN.out
      have ht := told_none (0 : Nat) hnone
      rw [HTV.out.1, HTV.out.2] at ht
      have HT0 := Lib.hid ht
      have i1 : ¬ ((k : Int) < 10 ∧ (k : Int) < (l.length : Int)) := by omega
      clear ht hnone
      generalize valP (List.take k l) % 18446744073709551616 = a at *
      generalize 128 ^ k % 18446744073709551616 = u at *
      by_cases h10 : k = 10
      · subst h10
        go_wp2_with (go_at_call 75; ((refine (CF.out _ HRr.out.bad).mono ?_); rintro e w1 ⟨rfl, h1, k1⟩; have H1 := Lib.hid (And.intro h1 (Kept.trans (.of_below K1.out) k1)); clear h1 k1))
        go_ret
        exact ⟨by rw [HT0.out.1]; rfl, by rw [HT0.out.2]; exact H1.out.1, H1.out.2⟩
      · have i2 : (k : Int) < 10 := by omega
        have i3 : ¬ (k : Int) < (l.length : Int) := by omega
        clear i1 hend
        generalize l.length = m at *
        go_wp2_with (go_at_call 75; ((refine (CF.out _ HRr.out.bad).mono ?_); rintro e w1 ⟨rfl, h1, k1⟩; have H1 := Lib.hid (And.intro h1 (Kept.trans (.of_below K1.out) k1)); clear h1 k1))
        go_ret
        exact ⟨by rw [HT0.out.1]; rfl, by rw [HT0.out.2]; exact H1.out.1, H1.out.2⟩
    · have hlt : k < l.length := by omega
      have i2 : (k : Int) < 10 := by omega
      have i3 : (k : Int) < (l.length : Int) := by omega
      have hA0 := HA.out.2
      obtain ⟨b1, off, rfl, hb1, hc⟩ := (rdY hA0).at_ (by omega)
      have cc := hc k _ (List.getElem?_eq_getElem hlt)
      have HF := Lib.hid (fun (q : l[k].toNat < 128) => rdU_first (by omega) hlt HN.out q)
      have hsn : l.take (k + 1) = l.take k ++ [l[k]] := List.take_succ_eq_append_getElem hlt
      have hlen : (l.take k).length = k := by rw [List.length_take]; omega
      have HV := Lib.hid (val_next (l.take k) l[k])
      rw [hlen, ← hsn] at HV
      have HU := Lib.hid (unit_next k)
      have HNN : Hid (128 ≤ l[k].toNat → ∀ x ∈ l.take (k + 1), 128 ≤ x.toNat) := Lib.hid (fun q x hx => by
        rw [hsn] at hx
        rcases List.mem_append.1 hx with h | h
        · exact HN.out x h
        · obtain rfl : x = l[k] := by simpa using h
          exact q)
      clear hc hsn hlen hA0
      generalize l[k] = b at *
      obtain ⟨a, ha⟩ : ∃ a, a = valP (l.take k) % 18446744073709551616 := ⟨_, rfl⟩
      obtain ⟨u, hu⟩ : ∃ u, u = 128 ^ k % 18446744073709551616 := ⟨_, rfl⟩
      obtain ⟨a2, ha2⟩ : ∃ a, a = valP (l.take (k + 1)) % 18446744073709551616 := ⟨_, rfl⟩
      obtain ⟨u2, hu2⟩ : ∃ u, u = 128 ^ (k + 1) % 18446744073709551616 := ⟨_, rfl⟩
      have eV := HV.out
      have eU := HU.out
      rw [← ha, ← hu, ← ha2] at eV
      rw [← hu, ← hu2] at eU
      rw [← ha, ← hu]
      have HA2 := Lib.hid ha2
      have HU2 := Lib.hid hu2
      have ha2lt : a2 < 18446744073709551616 := by rw [ha2]; exact Nat.mod_lt _ (by decide)
      clear ha hu ha2 hu2 HV HU
      have eW : IntKind.u64.wrap (b.toNat : Int) = (b.toNat : Int) := wU (by have := u8lt b; omega)
      by_cases hb : b.toNat < 128
      · have j1 : ¬ (128 : Int) ≤ (b.toNat : Int) := by omega
        have HF := Lib.hid (HF.out hb)
        have CU1 := Lib.hid (fun (W : World) => CU.out a2 ha2lt a2 W rfl)
        have hP : ∀ w', Below wr.heap.size wr w' → w'.cell? ⟨B, 0, none⟩ = some (.slice (some ⟨b1, off, none⟩) l.length c) := fun w' q => ((HA.out.1.then q).c 0).trans rfl
        have hks : k + 1 ≤ l.length := hlt
        have eK : IntKind.i64.wrap ((k : Int) + 1) = (k : Int) + 1 := wI (by omega) (by omega)
        have hlt1 : (l.take (k + 1)).length = k + 1 := by rw [List.length_take]; omega
        have hts : ∀ W, (Instr.slice 39 (.slice (some ⟨b1, off, none⟩) l.length c) none (some (.int .i64 ((k : Int) + 1))) none).run Tryz.prog W = .ok (.slice (some ⟨b1, off, none⟩) (k + 1) c) W := fun W => slice_toK u8K (A := some ⟨b1, off, none⟩) (n := l.length) (c := c) hks h3 W
        have hcb0 := conv_str (c := c) (RdK.take HA.out.2 (k + 1)) hlt1
        have hcb1 : (convert 39 9 (.slice (some ⟨b1, off, none⟩) (k + 1) c)).run Tryz.prog wr.drew = .ok (str (l.take (k + 1))) wr.drew := conv_str (w := wr.drew) (c := c) (RdK.take (IX.RdK.below HA.out.2 ⟨rfl, rfl, rfl, Nat.le_refl _, fun _ _ => rfl⟩) (k + 1)) hlt1
        obtain ⟨A2, c2, s1, s2, s3, _⟩ := slice_fromK u8K (c := c) HA.out.2 rfl hks h3
        have hs1 : ∀ W, (Instr.slice 39 (.slice (some ⟨b1, off, none⟩) l.length c) (some (.int .i64 ((k : Int) + 1))) none none).run Tryz.prog W = .ok (.slice A2 (l.length - (k + 1)) c2) W := fun W => s1 W
        have hdl : (l.drop (k + 1)).length = l.length - (k + 1) := List.length_drop
        have HS2 := Lib.hid s2
        have hnlen := numB_len64 ha2lt
        clear s1 s2
        by_cases he : numB a2 = l.take (k + 1)
        · have hcmp : ((⟨(numB a2).toArray⟩ : ByteArray).toList == (⟨(l.take (k + 1)).toArray⟩ : ByteArray).toList) = true := by rw [he]; simp
          have hcmp2 : (numB a2 == l.take (k + 1)) = true := by rw [he]; simp
          have HT0 : Hid (a2 = tv ∧ some (l.drop (k + 1)) = ts) := Lib.hid (by
            have q := HF.out
            rw [← HA2.out, if_pos he] at q
            have z := told_some (0 : Nat) q
            rw [HTV.out.1, HTV.out.2] at z
            exact ⟨z.1.symm, z.2.symm⟩)
          clear he
          go_wp2
          clear cc
          go_region_with (first
            | (go_at_call 33; (refine (CU1.out _).mono ?_); rintro e w3 ⟨v3, rfl, o3, k3⟩; obtain ⟨A3, c3, rfl, r3, _, _⟩ := o3.form; have hcv3 := conv_str (c := c3) r3 rfl; have hB3 : Below wr.heap.size wr w3 := bThen (bD1 wr) k3; have hcb3 := conv_str (c := c) (RdK.take (IX.RdK.below HA.out.2 (hB3.mono (Nat.le_of_lt HA.out.1.lt))) (k + 1)) hlt1; have q3 := hP _ hB3; clear o3 r3))
          all_goals
            have hh := Lib.hid (And.intro q3 hB3)
            have z0 := (HA.out.1.then hh.out.2).f 0
            have HE := Lib.hid (rat_set (HA.out.1.then hh.out.2) rfl (HS2.out _ (IX.RdK.below HA.out.2 (hh.out.2.mono (Nat.le_of_lt HA.out.1.lt)))) hdl s3)
            go_wp2
            go_ret
            exact ⟨by rw [← HT0.out.1]; rfl, by rw [← HT0.out.2]; exact HE.out, kset2 (.of_below (bThen K1.out hh.out.2)) _⟩
        · have hcmp := eq_str he
          have hcmp2 : (numB a2 == l.take (k + 1)) = false := by simpa using he
          have HT0 : Hid (0 = tv ∧ none = ts) := Lib.hid (by
            have q := HF.out
            rw [← HA2.out, if_neg he] at q
            have z := told_none (0 : Nat) q
            rw [HTV.out.1, HTV.out.2] at z
            exact ⟨z.1.symm, z.2.symm⟩)
          clear he
          go_wp2
          clear cc
          go_region_with (first
            | (go_at_call 33; (refine (CU1.out _).mono ?_); rintro e w3 ⟨v3, rfl, o3, k3⟩; obtain ⟨A3, c3, rfl, r3, _, _⟩ := o3.form; have hcv3 := conv_str (c := c3) r3 rfl; have hB3 : Below wr.heap.size wr w3 := bThen (bD1 wr) k3; have hcb3 := conv_str (c := c) (RdK.take (IX.RdK.below HA.out.2 (hB3.mono (Nat.le_of_lt HA.out.1.lt))) (k + 1)) hlt1; have q3 := hP _ hB3; clear o3 r3))
          all_goals
            have hh := Lib.hid (And.intro q3 hB3)
            have HB3 := Lib.hid (HRr.out.below hh.out.2).bad
            go_wp2_with (go_at_call 75; ((refine (CF.out _ HB3.out).mono ?_); rintro e w4 ⟨rfl, h4, k4⟩; have H4 := Lib.hid (And.intro h4 (Kept.trans (.of_below (bThen K1.out hh.out.2)) k4)); clear h4 k4))
            go_ret
            exact ⟨by rw [← HT0.out.1]; rfl, by rw [← HT0.out.2]; exact H4.out.1, H4.out.2⟩
      · have j1 : (128 : Int) ≤ (b.toNat : Int) := by omega
        have HN2 := Lib.hid (HNN.out (by omega))
        go_wp2
        refine ⟨⟨k + 1, by omega, by omega, ?_, ?_, by simp, HN2, K1.out⟩, by simp [intOf]; omega⟩
        · rw [← HA2.out]
        · rw [← HU2.out]
end Go.Proofs.YtjocbokfdfdkeaaGreat.YX
/-
  WALKS: the document's reader: Int, Text.
-/
namespace Go.Proofs.YtjocbokfdfdkeaaGreat.YX
open Go.RowKit HL
open IX (ptr El cellsK cellsK_at cellsK_len OwnK RdK Kept slice_toK slice_fromK)
set_option maxRecDepth 100000
set_option linter.unusedVariables false
set_option linter.unusedSimpArgs false

/-- No more bytes than a law has. -/
def Lim (s : Option Bs) : Prop := (s.getD []).length ≤ 1000000
theorem rUint_any (B : Nat) (s : Option Bs) (hs : Lim s) (w : World) (h : RAt w B s) : Calls Tryz.prog 51 #[ptr B] w fun e w' => e = .returned (vU (told (0 : Nat) rdU s)) ∧ RAt w' B (rest rdU s) ∧ Kept w w' (· ≠ B) := by
  cases s with
  | none => exact rUint_no B w h
  | some l => exact rUint_some B l w h hs
theorem told_lt (s : Option Bs) : told (0 : Nat) rdU s < 18446744073709551616 := by
  cases s with
  | none => simp [told]
  | some l =>
    cases e : rdU l with
    | none => rw [(told_none 0 e).1]; decide
    | some y => rw [(told_some 0 e).1]; exact (rdU_inv e).2
theorem rdI_told (s : Option Bs) : told (0 : Int) rdI s = natI (told (0 : Nat) rdU s) ∧ rest rdI s = rest rdU s := by
  cases s with
  | none => exact ⟨rfl, rfl⟩
  | some l =>
    cases e : rdU l with
    | none => rw [(told_none 0 e).1, (told_none (0 : Nat) e).2]; have e2 : rdI l = none := by simp [rdI, e]
              rw [(told_none 0 e2).1, (told_none (0 : Int) e2).2]; exact ⟨rfl, rfl⟩
    | some y => obtain ⟨v, r⟩ := y; rw [(told_some 0 e).1, (told_some (0 : Nat) e).2]; have e2 : rdI l = some (natI v, r) := by simp [rdI, e]
                rw [(told_some 0 e2).1, (told_some (0 : Int) e2).2]; exact ⟨rfl, rfl⟩
set_option maxHeartbeats 1000000 in
theorem rInt_any (B : Nat) (s : Option Bs) (hs : Lim s) (w : World) (h : RAt w B s) : Calls Tryz.prog 53 #[ptr B] w fun e w' => e = .returned (vI (told (0 : Int) rdI s)) ∧ RAt w' B (rest rdI s) ∧ Kept w w' (· ≠ B) := by
  have C := Lib.hid (rUint_any B s hs w h)
  rw [(rdI_told s).1, (rdI_told s).2]
  have hlt := told_lt s
  clear h
  generalize told (0 : Nat) rdU s = v at *
  generalize rest rdU s = s2 at *
  have hr := natI_ge hlt
  have e1 : IntKind.i64.wrap ((v : Int) / 2) = (v : Int) / 2 := wI (by omega) (by omega)
  by_cases hp : v % 2 = 1
  · have e2 : ((v : Int) % 2 == 0) = false := by simp; omega
    have e20 : ¬ ((v : Int) % 2 = 0) := by omega
    have hn : natI v = -((v : Int) / 2) - 1 := by unfold natI; rw [if_pos hp]; rfl
    rw [hn]
    have e3 : IntKind.i64.wrap (-((v : Int) / 2)) = -((v : Int) / 2) := wI (by omega) (by omega)
    have e4 : IntKind.i64.wrap (-((v : Int) / 2) - 1) = -((v : Int) / 2) - 1 := wI (by omega) (by omega)
    clear hr hn
    go_enter Tryz.func53, Tryz.ntmps53
    go_wp2_with (go_at_call 51; ((refine C.out.mono ?_); rintro e w1 ⟨rfl, h1, k1⟩; have H1 := Lib.hid (And.intro h1 k1); clear h1 k1))
    go_ret
    exact ⟨rfl, H1.out.1, H1.out.2⟩
  · have e2 : ((v : Int) % 2 == 0) = true := by simp; omega
    have e20 : ((v : Int) % 2 = 0) := by omega
    have hn : natI v = (v : Int) / 2 := by unfold natI; rw [if_neg hp]; rfl
    rw [hn]
    clear hr hn
    go_enter Tryz.func53, Tryz.ntmps53
    go_wp2_with (go_at_call 51; ((refine C.out.mono ?_); rintro e w1 ⟨rfl, h1, k1⟩; have H1 := Lib.hid (And.intro h1 k1); clear h1 k1))
    go_ret
    exact ⟨rfl, H1.out.1, H1.out.2⟩
theorem size8 (W : World) : (sizeOf 5).run Tryz.prog W = .ok 1 W := IX.size_K u8K W
set_option maxHeartbeats 2000000 in
theorem rText_any (B : Nat) (s : Option Bs) (hs : Lim s) (w : World) (h : RAt w B s) : Calls Tryz.prog 50 #[ptr B] w fun e w' => e = .returned (vS (told ([] : Bs) rdS s)) ∧ RAt w' B (rest rdS s) ∧ Kept w w' (· ≠ B) := by
  have C := Lib.hid (rUint_any B s hs w h)
  have CF := Lib.hid (fun (W : World) (q : Bad W B) => rfail_any B W q)
  clear h
  cases e : rest rdU s with
  | none =>
    have e1 : told (0 : Nat) rdU s = 0 ∧ told ([] : Bs) rdS s = [] ∧ rest rdS s = none := by
      cases s with
      | none => exact ⟨rfl, rfl, rfl⟩
      | some l =>
        cases q : rdU l with
        | none => have q2 : rdS l = none := by simp [rdS, q]
                  exact ⟨(told_none 0 q).1, (told_none _ q2).1, (told_none ([] : Bs) q2).2⟩
        | some y => rw [(told_some (0 : Nat) q).2] at e; cases e
    rw [e1.2.1, e1.2.2]
    rw [e, e1.1] at C
    clear e e1
    have hts : ∀ W, (Instr.slice 39 (.slice none 0 0) none (some (.int .u64 0)) none).run Tryz.prog W = .ok (.slice none 0 0) W := fun W => by
      have := run_slice_h (P := Tryz.prog) W 39 none 0 0 (IX.under_K u8K) .u64 0 (by omega) (by omega)
      rw [this, show Tryz.prog.elem 39 = 5 from u8K.el, size8]
      simp [Result.andThen, sliced]
    have hfs : ∀ W, (Instr.slice 39 (.slice none 0 0) (some (.int .u64 0)) none none).run Tryz.prog W = .ok (.slice none 0 0) W := fun W => by
      have := run_slice_l (P := Tryz.prog) W 39 none 0 0 (IX.under_K u8K) .u64 0 (by omega) (by omega)
      rw [this, show Tryz.prog.elem 39 = 5 from u8K.el, size8]
      simp [Result.andThen, sliced]
    go_enter Tryz.func50, Tryz.ntmps50
    go_wp2_with (go_at_call 51; ((refine C.out.mono ?_); rintro e w1 ⟨rfl, h1, k1⟩; have h1c : AtC w1 B #[.slice none 0 0, .bool true] := h1; have c0 := h1c.c 0; have f0 := h1c.f 0; have hcv : (convert 39 9 (.slice none 0 0)).run Tryz.prog w1 = .ok (str []) w1 := conv_str (B := 0) (.inl rfl) rfl; have H1 := Lib.hid (And.intro h1c k1); clear h1 h1c k1))
    go_ret
    exact ⟨rfl, H1.out.1.set (i := 0) (by simp) _, kset2 H1.out.2 _⟩
  | some r =>
    obtain ⟨l, rfl, hv⟩ : ∃ l, s = some l ∧ rdU l = some (told (0 : Nat) rdU s, r) := by
      cases s with
      | none => cases e
      | some l =>
        refine ⟨l, rfl, ?_⟩
        cases q : rdU l with
        | none => rw [(told_none (0 : Nat) q).2] at e; cases e
        | some y =>
          obtain ⟨v, r2⟩ := y
          rw [(told_some (0 : Nat) q).2] at e
          rw [(told_some (0 : Nat) q).1]
          simp at e; rw [e]
    have hlt := told_lt (some l)
    have hrl : r.length ≤ 1000000 := Nat.le_trans (Nat.le_of_lt (rdU_rest hv)) hs
    rw [e] at C
    generalize told (0 : Nat) rdU (some l) = v at *
    have eU : IntKind.u64.wrap (r.length : Int) = (r.length : Int) := wU (by omega)
    by_cases hok : v ≤ 255 ∧ v ≤ r.length
    · have e2 : rdS l = some (r.take v, r.drop v) := by simp [rdS, hv, hok.1, hok.2]
      rw [(told_some ([] : Bs) e2).1, (told_some ([] : Bs) e2).2]
      have i1 : ¬ (255 : Int) < (v : Int) := by omega
      have i2 : ¬ (r.length : Int) < (v : Int) := by omega
      have hvl : (r.take v).length = v := by rw [List.length_take]; omega
      have hdl : (r.drop v).length = r.length - v := List.length_drop
      have hv2 := hok.2
      clear hv e e2 hs
      have eV : IntKind.i64.wrap (v : Int) = (v : Int) := wI (by omega) (by omega)
      go_enter Tryz.func50, Tryz.ntmps50
      go_wp2_with (go_at_call 51; ((refine C.out.mono ?_); rintro e w1 ⟨rfl, h1, k1⟩; obtain ⟨A, c, h1, h2, h3⟩ := h1; have c0 := h1.c 0; have f0 := h1.f 0; have hcv := conv_str (w := w1) (c := c) (RdK.take h2 v) hvl; obtain ⟨A2, c2, s1, s2, s3, _⟩ := slice_fromK u8K (c := c) h2 rfl hv2 h3; have hts : ∀ W, (Instr.slice 39 (.slice A r.length c) none (some (.int .u64 v)) none).run Tryz.prog W = .ok (.slice A v c) W := (fun W => by
          have := run_slice_h W 39 A r.length c (IX.under_K u8K) .u64 (v : Int) (by omega) (by omega)
          rw [this, show Tryz.prog.elem 39 = 5 from u8K.el, size8]
          cases A <;> simp [Result.andThen, sliced, IX.addr0]); have hfs : ∀ W, (Instr.slice 39 (.slice A r.length c) (some (.int .u64 v)) none none).run Tryz.prog W = .ok (.slice A2 (r.length - v) c2) W := (fun W => by
          have q := s1 W
          have z := run_slice_l W 39 A r.length c (IX.under_K u8K) .u64 (v : Int) (by omega) (by omega)
          have z2 := run_slice_l W 39 A r.length c (IX.under_K u8K) .i64 (v : Int) (by omega) (by omega)
          exact (z.trans z2.symm).trans q); have HE := Lib.hid (rat_set h1 rfl (s2 _ h2) hdl s3); have H1 := Lib.hid k1; clear h1 h2 s1 s2 k1))
      go_ret
      exact ⟨rfl, HE.out, kset2 H1.out _⟩
    · have e2 : rdS l = none := by simp only [rdS, hv]; rw [if_neg hok]
      rw [(told_none ([] : Bs) e2).1, (told_none ([] : Bs) e2).2]
      clear hv e e2 hs
      by_cases h255 : v ≤ 255
      · have i1 : ¬ (255 : Int) < (v : Int) := by omega
        have i2 : (r.length : Int) < (v : Int) := by omega
        go_enter Tryz.func50, Tryz.ntmps50
        go_wp2_with (first
          | (go_at_call 51; ((refine C.out.mono ?_); rintro e w1 ⟨rfl, h1, k1⟩; have HB := Lib.hid h1.bad; obtain ⟨A, c, h1, h2, h3⟩ := h1; have c0 := h1.c 0; have H1 := Lib.hid k1; clear h1 h2 k1))
          | (go_at_call 75; ((refine (CF.out _ HB.out).mono ?_); rintro e w2 ⟨rfl, h2, k2⟩; have H2 := Lib.hid (And.intro h2 (H1.out.trans k2)); clear h2 k2)))
        go_ret
        exact ⟨rfl, H2.out.1, H2.out.2⟩
      · have i1 : (255 : Int) < (v : Int) := by omega
        go_enter Tryz.func50, Tryz.ntmps50
        go_wp2_with (first
          | (go_at_call 51; ((refine C.out.mono ?_); rintro e w1 ⟨rfl, h1, k1⟩; have HB := Lib.hid h1.bad; have H1 := Lib.hid k1; clear h1 k1))
          | (go_at_call 75; ((refine (CF.out _ HB.out).mono ?_); rintro e w2 ⟨rfl, h2, k2⟩; have H2 := Lib.hid (And.intro h2 (H1.out.trans k2)); clear h2 k2)))
        go_ret
        exact ⟨rfl, H2.out.1, H2.out.2⟩
end Go.Proofs.YtjocbokfdfdkeaaGreat.YX
/-
  PLAIN: bounds of what is told.
-/
namespace Go.Proofs.YtjocbokfdfdkeaaGreat.YX
open Go.RowKit HL
set_option maxRecDepth 100000

theorem told_I (s : Option Bs) : -9223372036854775808 ≤ told (0 : Int) rdI s ∧ told (0 : Int) rdI s < 9223372036854775808 := by
  rw [(rdI_told s).1]; exact natI_ge (told_lt s)
theorem told_B (s : Option Bs) : told (0 : Nat) rdB s < 256 := by
  cases s with
  | none => simp [told]
  | some l => cases l with
    | nil => simp [told, rdB]
    | cons b r => exact u8lt b
theorem told_T (s : Option Bs) : told (0 : Nat) rdT s ≤ 1 := by
  cases s with
  | none => simp [told]
  | some l =>
    cases e : rdT l with
    | none => rw [(told_none 0 e).1]; omega
    | some y =>
      obtain ⟨v, r⟩ := y
      rw [(told_some 0 e).1]
      cases l with
      | nil => simp [rdT] at e
      | cons b r2 => simp only [rdT] at e; split at e <;> simp at e; omega
end Go.Proofs.YtjocbokfdfdkeaaGreat.YX
