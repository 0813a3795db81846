/-
  WALKS: unsigned of a reader.
-/
import Derived.Test.YtjocbokfdfdkeaaGreatLZYTake
namespace Go.Proofs.YtjocbokfdfdkeaaGreat.YX
open Go.RowKit HL
open IX (ptr El cellsK cellsK_at cellsK_len OwnK RdK Kept slice_toK slice_fromK)
set_option maxRecDepth 100000
set_option linter.unusedVariables false
set_option linter.unusedSimpArgs false

/-- What a read comes to: a value and what is left, or a failure, raised. -/
def Rd {α : Type} (w0 : World) (B : Nat) (en : α → Value) (o : Option (α × Bs)) (e : Ending) (w' : World) : Prop :=
  match o with
  | some (v, r) => e = .returned (en v) ∧ RAt w' B (some r) ∧ Kept w0 w' (· ≠ B)
  | none => e = pan ∧ Bad w' B ∧ Kept w0 w' (· ≠ B)
theorem Rd.yes {α : Type} {w0 : World} {B : Nat} {en : α → Value} {o : Option (α × Bs)} {w' : World} {v : α} {r : Bs} (h : o = some (v, r)) (h1 : RAt w' B (some r)) (k : Kept w0 w' (· ≠ B)) : Rd w0 B en o (.returned (en v)) w' := by
  subst h; exact ⟨rfl, h1, k⟩
theorem Rd.no {α : Type} {w0 : World} {B : Nat} {en : α → Value} {o : Option (α × Bs)} {w' : World} (h : o = none) (h1 : Bad w' B) (k : Kept w0 w' (· ≠ B)) : Rd w0 B en o pan w' := by
  subst h; exact ⟨rfl, h1, k⟩
theorem wU {a : Nat} (h : a < 18446744073709551616) : IntKind.u64.wrap (a : Int) = (a : Int) := by
  simp [IntKind.wrap, IntKind.bits, IntKind.signed]; omega
theorem pow7 (k : Nat) : (2 : Nat) ^ (7 * k) = 128 ^ k := by rw [Nat.pow_mul]
theorem acc_next {k acc c : Nat} (hk : k ≤ 9) (ha : acc < 128 ^ k) (hc : k < 9 ∨ c ≤ 1) :
    IntKind.u64.wrap ((acc : Int) + IntKind.u64.wrap ((c : Int) % 128 * 2 ^ (7 * k))) = ((acc + c % 128 * 128 ^ k : Nat) : Int) ∧ (k < 9 → acc + c % 128 * 128 ^ k < 128 ^ (k + 1)) := by
  have e : ((c : Int) % 128 * 2 ^ (7 * k)) = ((c % 128 * 128 ^ k : Nat) : Int) := by
    rw [← pow7]; simp
  have hm : c % 128 < 128 := Nat.mod_lt _ (by decide)
  have h1 : k < 9 → acc + c % 128 * 128 ^ k < 128 ^ (k + 1) := fun _ => by
    have : c % 128 * 128 ^ k ≤ 127 * 128 ^ k := Nat.mul_le_mul_right _ (by omega)
    rw [Nat.pow_succ]; omega
  have h2 : acc + c % 128 * 128 ^ k < 18446744073709551616 := by
    rcases hc with h | h
    · have := h1 h
      have h3 : 128 ^ (k + 1) ≤ 128 ^ 9 := Nat.pow_le_pow_right (by decide) (by omega)
      have h4 : (128 : Nat) ^ 9 < 18446744073709551616 := by decide
      omega
    · have h3 : 128 ^ k ≤ 128 ^ 9 := Nat.pow_le_pow_right (by decide) hk
      have h4 : (128 : Nat) ^ 9 + 128 ^ 9 = 18446744073709551616 := by decide
      have h5 : c % 128 * 128 ^ k ≤ 1 * 128 ^ k := Nat.mul_le_mul_right _ (by omega)
      omega
  refine ⟨?_, h1⟩
  rw [e, wU (by omega), ← Int.natCast_add, wU h2]
abbrev vU (n : Nat) : Value := .int .u64 (n : Int)
set_option maxHeartbeats 4000000 in
theorem unsigned_any (B : Nat) (l : Bs) (w : World) (h : RAt w B (some l)) : Calls Tryz.prog 120 #[ptr B] w fun e w' => Rd w B vU (rdU l) e w' := by
  have H := Lib.hid h
  clear h
  have CM := Lib.hid must_no
  have CY := Lib.hid must_yes
  have C0 := Lib.hid octet_no
  have C1 := Lib.hid octet_yes
  go_enter Tryz.func120, Tryz.ntmps120
  go_wp2
  go_loopw [3, 4] (fun n i wr => ∃ (k acc : Nat) (l1 : Bs), n = .int .u64 acc ∧ i = .int .i64 k ∧ k ≤ 9 ∧ acc < 128 ^ k ∧ Hid (rdU l = goU k acc l1) ∧ Hid (RAt wr B (some l1)) ∧ Kept w wr (· ≠ B)) (fun _ i _ => 10 - (intOf i).toNat)
  case atStart => exact ⟨0, 0, l, rfl, rfl, by omega, by simp, Lib.hid rfl, H, Kept.refl _ _⟩
  case round =>
    obtain ⟨k, acc, l1, rfl, rfl, hk, ha, HG, HR, k1⟩ := hrel
    have K1 := Lib.hid k1
    clear k1
    cases l1 with
    | nil =>
      go_wp2_with (go_at_call 111; ((refine (C0.out B wr HR.out).mono ?_); rintro e w1 ⟨rfl, rfl⟩))
      refine ⟨rfl, ?_⟩
      exact Rd.no (HG.out.trans (by simp [goU])) HR.out.bad K1.out
    | cons b r =>
      by_cases hk9 : k < 9
      · have i1 : (k : Int) < 9 := by omega
        by_cases hb : b.toNat < 128
        · have i2 : ((b.toNat : Int) < 128) := by omega
          have i3 : decide ((b.toNat : Int) < 128) = true := decide_eq_true i2
          have HN := Lib.hid (acc_next (c := b.toNat) hk ha (.inl hk9))
          by_cases hp : 0 < b.toNat
          · have i8 : (0 : Int) < (b.toNat : Int) := by omega
            have i4 : decide ((0 : Int) < (b.toNat : Int)) = true := decide_eq_true i8
            have i5 := i4; have i6 := i4; have i7 := i4
            go_wp2_with (first
              | (go_at_call 111; ((refine (C1.out B b r wr HR.out).mono ?_); rintro e w1 ⟨rfl, h1, k1⟩; have H1 := Lib.hid h1; have K2 := Lib.hid (K1.out.trans k1); clear h1 k1))
              | (go_at_call 128; ((refine (CY.out _ (by first | rfl | exact i4 | exact i5 | exact i6 | exact i7) _).mono ?_); rintro e w2 ⟨rfl, rfl⟩)))
            go_ret
            simp only [go_sem]
            try rw [HN.out.1]
            refine Rd.yes (v := acc + b.toNat % 128 * 128 ^ k) (HG.out.trans ?_) H1.out K2.out
            simp [goU, hk9, hb, hp]
          · by_cases hz : k = 0
            · subst hz
              have i8 : ¬ (0 : Int) < (b.toNat : Int) := by omega
              have i4 : decide ((0 : Int) < (b.toNat : Int)) = false := decide_eq_false i8
              have i5 := i4; have i6 := i4; have i7 := i4
              go_wp2_with (first
                | (go_at_call 111; ((refine (C1.out B b r wr HR.out).mono ?_); rintro e w1 ⟨rfl, h1, k1⟩; have H1 := Lib.hid h1; have K2 := Lib.hid (K1.out.trans k1); clear h1 k1))
                | (go_at_call 128; ((refine (CY.out _ (by first | rfl | exact i4 | exact i5 | exact i6 | exact i7) _).mono ?_); rintro e w2 ⟨rfl, rfl⟩)))
              go_ret
              simp only [go_sem]
              try rw [HN.out.1]
              have e0 : ((acc : Int) + (b.toNat : Int) % 128) = ((acc + b.toNat % 128 : Nat) : Int) := by simp
              simp only [e0]
              refine Rd.yes (v := acc + b.toNat % 128) (HG.out.trans ?_) H1.out K2.out
              simp [goU, hk9, hb, hp]
            · have i8 : ¬ (0 : Int) < (b.toNat : Int) := by omega
              have i6 : decide ((0 : Int) < (b.toNat : Int)) = false := decide_eq_false i8
              have i9 : ¬ ((k : Int) = 0) := by omega
              have i7 : ((k : Int) == 0) = false := by simpa using i9
              have i4 : decide ((k : Int) < 9) = true := decide_eq_true i1
              have i5 := i4
              go_wp2_with (first
                | (go_at_call 111; ((refine (C1.out B b r wr HR.out).mono ?_); rintro e w1 ⟨rfl, h1, k1⟩; have H1 := Lib.hid h1; have K2 := Lib.hid (K1.out.trans k1); clear h1 k1))
                | (go_at_call 128; first
              | ((refine (CY.out _ (by first | rfl | exact i4 | exact i5) _).mono ?_); rintro e w2 ⟨rfl, rfl⟩)
              | ((refine (CM.out _ (by first | rfl | exact i6 | exact i7) _).mono ?_); rintro e w2 ⟨rfl, rfl⟩)))
              refine ⟨rfl, ?_⟩
              exact Rd.no (HG.out.trans (by simp [goU, hk9, hb, hp, hz])) H1.out.bad K2.out
        · have i2 : ¬ ((b.toNat : Int) < 128) := by omega
          have i3 : decide ((b.toNat : Int) < 128) = false := decide_eq_false i2
          have HN := Lib.hid (acc_next (c := b.toNat) hk ha (.inl hk9))
          have i4 : decide ((k : Int) < 9) = true := decide_eq_true i1
          have i5 := i4; have i6 := i4; have i7 := i4
          go_wp2_with (first
            | (go_at_call 111; ((refine (C1.out B b r wr HR.out).mono ?_); rintro e w1 ⟨rfl, h1, k1⟩; have H1 := Lib.hid h1; have K2 := Lib.hid (K1.out.trans k1); clear h1 k1))
            | (go_at_call 128; ((refine (CY.out _ (by first | rfl | exact i4 | exact i5 | exact i6 | exact i7) _).mono ?_); rintro e w2 ⟨rfl, rfl⟩)))
          refine ⟨⟨k + 1, acc + b.toNat % 128 * 128 ^ k, r, by rw [HN.out.1], by simp, by omega, HN.out.2 hk9, Lib.hid (HG.out.trans (by simp [goU, hk9, hb])), H1, K2.out⟩, by simp [intOf]; omega⟩
      · have i1 : ¬ (k : Int) < 9 := by omega
        by_cases hb : b.toNat ≤ 1
        · have i2 : ((b.toNat : Int) < 128) := by omega
          have i3 : decide ((b.toNat : Int) < 128) = true := decide_eq_true i2
          have j2 : ((b.toNat : Int) ≤ 1) := by omega
          have j3 : decide ((b.toNat : Int) ≤ 1) = true := decide_eq_true j2
          have HN := Lib.hid (acc_next (c := b.toNat) hk ha (.inr hb))
          by_cases hp : 0 < b.toNat
          · have i8 : (0 : Int) < (b.toNat : Int) := by omega
            have i4 : decide ((0 : Int) < (b.toNat : Int)) = true := decide_eq_true i8
            have i5 := j3; have i6 := i4; have i7 := i4
            go_wp2_with (first
              | (go_at_call 111; ((refine (C1.out B b r wr HR.out).mono ?_); rintro e w1 ⟨rfl, h1, k1⟩; have H1 := Lib.hid h1; have K2 := Lib.hid (K1.out.trans k1); clear h1 k1))
              | (go_at_call 128; ((refine (CY.out _ (by first | rfl | exact i4 | exact i5 | exact i6 | exact i7) _).mono ?_); rintro e w2 ⟨rfl, rfl⟩)))
            go_ret
            simp only [go_sem]
            try rw [HN.out.1]
            refine Rd.yes (v := acc + b.toNat % 128 * 128 ^ k) (HG.out.trans ?_) H1.out K2.out
            simp [goU, hb, hp, show b.toNat < 128 by omega]
          · have hz : ¬ k = 0 := by omega
            have i8 : ¬ (0 : Int) < (b.toNat : Int) := by omega
            have i6 : decide ((0 : Int) < (b.toNat : Int)) = false := decide_eq_false i8
            have i9 : ¬ ((k : Int) = 0) := by omega
            have i7 : ((k : Int) == 0) = false := by simpa using i9
            have i4 := j3
            have i5 := i4
            go_wp2_with (first
              | (go_at_call 111; ((refine (C1.out B b r wr HR.out).mono ?_); rintro e w1 ⟨rfl, h1, k1⟩; have H1 := Lib.hid h1; have K2 := Lib.hid (K1.out.trans k1); clear h1 k1))
              | (go_at_call 128; first
              | ((refine (CY.out _ (by first | rfl | exact i4 | exact i5) _).mono ?_); rintro e w2 ⟨rfl, rfl⟩)
              | ((refine (CM.out _ (by first | rfl | exact i6 | exact i7) _).mono ?_); rintro e w2 ⟨rfl, rfl⟩)))
            refine ⟨rfl, ?_⟩
            exact Rd.no (HG.out.trans (by simp [goU, hb, hp, hz, show b.toNat < 128 by omega])) H1.out.bad K2.out
        · have j2 : ¬ ((b.toNat : Int) ≤ 1) := by omega
          have j3 : decide ((b.toNat : Int) ≤ 1) = false := decide_eq_false j2
          have i4 := j3; have i5 := j3; have i6 := j3; have i7 : decide ((k : Int) < 9) = false := decide_eq_false i1
          go_wp2_with (first
            | (go_at_call 111; ((refine (C1.out B b r wr HR.out).mono ?_); rintro e w1 ⟨rfl, h1, k1⟩; have H1 := Lib.hid h1; have K2 := Lib.hid (K1.out.trans k1); clear h1 k1))
            | (go_at_call 128; ((refine (CM.out _ (by first | rfl | exact i4 | exact i5 | exact i6 | exact i7) _).mono ?_); rintro e w2 ⟨rfl, rfl⟩)))
          refine ⟨rfl, ?_⟩
          exact Rd.no (HG.out.trans (by simp [goU, hb, hk9])) H1.out.bad K2.out
end Go.Proofs.YtjocbokfdfdkeaaGreat.YX
