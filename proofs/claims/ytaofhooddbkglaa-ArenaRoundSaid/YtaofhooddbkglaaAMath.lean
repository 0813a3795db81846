/-
  PLAIN: slots as a row of bits, and the number whose bits they are; how many bits of a number are set, as math/bits reckons it; the least free slot.
-/
import Derived.Laws.BitsAllLaws
import Derived.Laws.ShiftsVar
namespace Go.Proofs.Ytaofhooddbkglaa
set_option maxRecDepth 100000
set_option linter.unusedVariables false
set_option linter.unusedSimpArgs false

/-- The number whose bits are these. -/
def bitsN : List Bool → Nat
  | [] => 0
  | b :: l => b.toNat + 2 * bitsN l
/-- How many of the first k bits are set. -/
def ones : Nat → Nat → Nat
  | 0, _ => 0
  | k + 1, t => t % 2 + ones k (t / 2)
def many (l : List Bool) : Nat := l.countP id
theorem bitsN_test (l : List Bool) (k : Nat) : (bitsN l).testBit k = l.getD k false := by
  induction l generalizing k with
  | nil => simp [bitsN]
  | cons b l ih =>
    have h2 : (b.toNat + 2 * bitsN l) / 2 = bitsN l := by cases b <;> simp <;> omega
    cases k with
    | zero => cases b <;> simp [bitsN, Nat.testBit_zero] <;> omega
    | succ k => rw [bitsN, Nat.testBit_succ, h2, ih]; simp
theorem bitsN_lt (l : List Bool) : bitsN l < 2 ^ l.length := by
  induction l with
  | nil => simp [bitsN]
  | cons b l ih =>
    have : b.toNat ≤ 1 := by cases b <;> simp
    rw [bitsN, List.length_cons, Nat.pow_succ]; omega
theorem bitsN_le {l : List Bool} (h : l.length ≤ 64) : bitsN l < 18446744073709551616 :=
  Nat.lt_of_lt_of_le (bitsN_lt l) (Nat.pow_le_pow_right (by decide) h : 2 ^ l.length ≤ 2 ^ 64)
theorem getD_set (l : List Bool) (k : Nat) (b : Bool) (i : Nat) (h : k < l.length) : (l.set k b).getD i false = if k = i then b else l.getD i false := by
  simp only [List.getD_eq_getElem?_getD, List.getElem?_set]
  by_cases e : k = i
  · subst e; simp [h]
  · simp [e]
theorem bitsN_or {l : List Bool} {k : Nat} (h : k < l.length) : bitsN l ||| 2 ^ k = bitsN (l.set k true) := by
  apply Nat.eq_of_testBit_eq
  intro i
  rw [Nat.testBit_or, bitsN_test, bitsN_test, Nat.testBit_two_pow, getD_set _ _ _ _ h]
  by_cases e : k = i <;> simp [e]
theorem bitsN_andNot {l : List Bool} {k : Nat} (h : k < l.length) (hl : l.length ≤ 64) : bitsN l &&& (18446744073709551615 - 2 ^ k) = bitsN (l.set k false) := by
  apply Nat.eq_of_testBit_eq
  intro i
  have hk : (2 : Nat) ^ k < 2 ^ 64 := Nat.pow_lt_pow_right (by decide) (by omega)
  rw [Nat.testBit_and, bitsN_test, bitsN_test, show 18446744073709551615 - 2 ^ k = 2 ^ 64 - (2 ^ k + 1) by omega, Nat.testBit_two_pow_sub_succ hk, Nat.testBit_two_pow, getD_set _ _ _ _ h]
  by_cases e : k = i
  · subst e; simp
  · by_cases h2 : i < 64
    · simp [e, h2]
    · have : l.getD i false = false := by rw [List.getD_eq_getElem?_getD, List.getElem?_eq_none (by omega)]; rfl
      rw [this]; simp
theorem pow64 {k : Nat} (h : k < 64) : (2 : Nat) ^ k < 18446744073709551616 := Nat.pow_lt_pow_right (by decide) h
theorem wrap_pow {k : Nat} (h : k < 64) : IntKind.u64.wrap ((2 : Int) ^ k) = ((2 ^ k : Nat) : Int) := by
  have h1 := pow64 h
  have e : ((2 : Int) ^ k) = ((2 ^ k : Nat) : Int) := by simp
  rw [e]
  generalize 2 ^ k = p at *
  simp [IntKind.wrap, IntKind.bits, IntKind.signed]
  omega
theorem bit_and (l : List Bool) (k : Nat) (hl : l.length ≤ 64) (h : k < 64) : (bits BinOp.and IntKind.u64 (bitsN l : Int) ((2 ^ k : Nat) : Int) != 0) = l.getD k false := by
  rw [u64_and_nat _ _ (bitsN_le hl) (pow64 h), nat_bit, ← bitsN_test, Nat.testBit_eq_decide_div_mod_eq]
  have h2 := Nat.pow_pos (n := k) (show 0 < 2 by decide)
  rcases (show bitsN l / 2 ^ k % 2 = 0 ∨ bitsN l / 2 ^ k % 2 = 1 by omega) with e | e <;> rw [e]
  · simp
  · generalize 2 ^ k = p at *
    simp; omega
theorem bit_or {l : List Bool} {k : Nat} (hl : l.length ≤ 64) (h : k < l.length) : bits BinOp.or IntKind.u64 (bitsN l : Int) ((2 ^ k : Nat) : Int) = (bitsN (l.set k true) : Int) := by
  rw [u64_or_nat _ _ (bitsN_le hl) (pow64 (by omega)), bitsN_or h]
theorem bit_andNot {l : List Bool} {k : Nat} (hl : l.length ≤ 64) (h : k < l.length) : bits BinOp.andNot IntKind.u64 (bitsN l : Int) ((2 ^ k : Nat) : Int) = (bitsN (l.set k false) : Int) := by
  rw [u64_andNot_nat _ _ (bitsN_le hl) (pow64 (by omega)), bitsN_andNot h hl]

/-! ## How many bits are set -/
theorem ones_bits (l : List Bool) (k : Nat) (h : l.length ≤ k) : ones k (bitsN l) = many l := by
  induction l generalizing k with
  | nil =>
    have : ∀ k, ones k 0 = 0 := by intro k; induction k with | zero => rfl | succ k ih => simp [ones, ih]
    simp [bitsN, many, this]
  | cons b l ih =>
    cases k with
    | zero => simp at h
    | succ k =>
      have h2 : (b.toNat + 2 * bitsN l) / 2 = bitsN l := by cases b <;> simp <;> omega
      have h3 : (b.toNat + 2 * bitsN l) % 2 = b.toNat := by cases b <;> simp <;> omega
      simp only [bitsN, ones, h2, h3, ih k (by simpa using h)]
      cases b <;> simp [many] <;> omega
theorem ones_byte (k a y : Nat) (h : a < 256) : ones (8 + k) (a + 256 * y) = ones 8 a + ones k y := by
  have : ones (8 + k) (a + 256 * y) = ones (k + 1 + 1 + 1 + 1 + 1 + 1 + 1 + 1) (a + 256 * y) := by rw [show 8 + k = k + 1 + 1 + 1 + 1 + 1 + 1 + 1 + 1 by omega]
  rw [this]
  simp only [ones]
  rw [show (a + 256 * y) / 2 / 2 / 2 / 2 / 2 / 2 / 2 / 2 = y by omega]
  omega
theorem ones_at (n k a y : Nat) (e : n = 8 + k) (h : a < 256) : ones n (a + 256 * y) = ones 8 a + ones k y := by rw [e]; exact ones_byte k a y h
def msk (c : Nat) : Nat → Nat
  | 0 => 0
  | k + 1 => c + 256 * msk c k
theorem and_byte (a y m M : Nat) (ha : a < 256) (hm : m < 256) : (a + 256 * y) &&& (m + 256 * M) = (a &&& m) + 256 * (y &&& M) := by
  have h1 : (a + 256 * y) = y * 2 ^ 8 + a := by omega
  have h2 : (m + 256 * M) = M * 2 ^ 8 + m := by omega
  have h3 : a &&& m < 256 := Nat.lt_of_le_of_lt Nat.and_le_left ha
  have e1 : ((a + 256 * y) &&& (m + 256 * M)) % 2 ^ 8 = (a &&& m) := by
    rw [Nat.and_mod_two_pow, show (a + 256 * y) % 2 ^ 8 = a by omega, show (m + 256 * M) % 2 ^ 8 = m by omega]
  have e2 : ((a + 256 * y) &&& (m + 256 * M)) / 2 ^ 8 = (y &&& M) := by
    rw [Nat.and_div_two_pow, show (a + 256 * y) / 2 ^ 8 = y by omega, show (m + 256 * M) / 2 ^ 8 = M by omega]
  have := Nat.div_add_mod ((a + 256 * y) &&& (m + 256 * M)) (2 ^ 8)
  rw [e1, e2] at this
  omega
def S1 (k x : Nat) : Nat := (x / 2 &&& msk 85 k) + (x &&& msk 85 k)
def S2 (k x : Nat) : Nat := (x / 4 &&& msk 51 k) + (x &&& msk 51 k)
def S3 (k x : Nat) : Nat := (x / 16 + x) &&& msk 15 k
def b1 (a : Nat) : Nat := (a / 2 &&& 85) + (a &&& 85)
def b2 (a : Nat) : Nat := (a / 4 &&& 51) + (a &&& 51)
theorem b1_lt : ∀ a, a < 256 → b1 a < 256 := by decide +kernel
theorem b2_lt : ∀ a, a < 256 → b2 a < 256 := by decide +kernel
theorem b21 : ∀ a, a < 256 → b2 (b1 a) / 16 ≤ 4 ∧ b2 (b1 a) % 16 ≤ 4 ∧ (b2 (b1 a) / 16 + b2 (b1 a)) % 16 = ones 8 a ∧ ones 8 a ≤ 8 := by decide +kernel
theorem low1 : ∀ a, a < 256 → (a / 2 + 128 &&& 85) = (a / 2 &&& 85) := by decide +kernel
theorem low2 : ∀ r, r < 4 → ∀ a, a < 256 → (a / 4 + 64 * r &&& 51) = (a / 4 &&& 51) := by decide +kernel
theorem S1_byte (k a y : Nat) (h : a < 256) : S1 (k + 1) (a + 256 * y) = b1 a + 256 * S1 k y := by
  unfold S1 b1
  have h1 : (a + 256 * y) / 2 = (a / 2 + 128 * (y % 2)) + 256 * (y / 2) := by omega
  rw [h1]
  simp only [msk]
  rw [and_byte _ _ _ _ (by omega) (by decide), and_byte _ _ _ _ h (by decide)]
  have h2 : (a / 2 + 128 * (y % 2) &&& 85) = (a / 2 &&& 85) := by
    rcases (show y % 2 = 0 ∨ y % 2 = 1 by omega) with e | e <;> rw [e]
    · rfl
    · exact low1 a h
  rw [h2]; omega
theorem S2_byte (k a y : Nat) (h : a < 256) : S2 (k + 1) (a + 256 * y) = b2 a + 256 * S2 k y := by
  unfold S2 b2
  have h1 : (a + 256 * y) / 4 = (a / 4 + 64 * (y % 4)) + 256 * (y / 4) := by omega
  rw [h1]
  simp only [msk]
  rw [and_byte _ _ _ _ (by omega) (by decide), and_byte _ _ _ _ h (by decide), low2 (y % 4) (by omega) a h]; omega
theorem S3_byte (k a y : Nat) (h : a / 16 ≤ 4 ∧ a % 16 ≤ 4) (hy : y % 16 ≤ 4) : S3 (k + 1) (a + 256 * y) = (a / 16 + a) % 16 + 256 * S3 k y := by
  unfold S3
  have h1 : (a + 256 * y) / 16 + (a + 256 * y) = (a / 16 + 16 * (y % 16) + a) + 256 * (y / 16 + y) := by omega
  rw [h1]
  simp only [msk]
  rw [and_byte _ _ _ _ (by omega) (by decide), nat_mask4, show (a / 16 + 16 * (y % 16) + a) % 16 = (a / 16 + a) % 16 by omega]
def P3 (k x : Nat) : Nat := S3 k (S2 k (S1 k x))
theorem low_21 (k x : Nat) (h : x < 256 ^ k) : S2 k (S1 k x) % 16 ≤ 4 := by
  cases k with
  | zero => simp [S2, msk]
  | succ k =>
    have e : x = x % 256 + 256 * (x / 256) := by omega
    rw [e, S1_byte _ _ _ (Nat.mod_lt _ (by decide)), S2_byte _ _ _ (b1_lt _ (Nat.mod_lt _ (by decide)))]
    have := (b21 (x % 256) (Nat.mod_lt _ (by decide))).2.1
    omega
theorem P3_byte (k a y : Nat) (h : a < 256) (hy : y < 256 ^ k) : P3 (k + 1) (a + 256 * y) = ones 8 a + 256 * P3 k y := by
  unfold P3
  obtain ⟨q1, q2, q3, _⟩ := b21 a h
  rw [S1_byte _ _ _ h, S2_byte _ _ _ (b1_lt _ h), S3_byte _ _ _ ⟨q1, q2⟩ (low_21 k y hy), q3]
theorem P3_zero (x : Nat) : P3 0 x = 0 := by simp [P3, S3, msk]
def fold3 (v : Nat) : Nat := let x1 := v + v / 256; let x2 := x1 + x1 / 65536; let x3 := x2 + x2 / 4294967296; x3 % 128
theorem fold_sum (c0 c1 c2 c3 c4 c5 c6 c7 : Nat) (h0 : c0 ≤ 8) (h1 : c1 ≤ 8) (h2 : c2 ≤ 8) (h3 : c3 ≤ 8) (h4 : c4 ≤ 8) (h5 : c5 ≤ 8) (h6 : c6 ≤ 8) (h7 : c7 ≤ 8) :
    fold3 (c0 + 256 * (c1 + 256 * (c2 + 256 * (c3 + 256 * (c4 + 256 * (c5 + 256 * (c6 + 256 * c7))))))) = c0 + c1 + c2 + c3 + c4 + c5 + c6 + c7 := by
  unfold fold3
  simp only []
  rw [show (c0 + 256 * (c1 + 256 * (c2 + 256 * (c3 + 256 * (c4 + 256 * (c5 + 256 * (c6 + 256 * c7))))))) / 256 = (c1 + 256 * (c2 + 256 * (c3 + 256 * (c4 + 256 * (c5 + 256 * (c6 + 256 * c7)))))) by omega]
  rw [show (c0 + 256 * (c1 + 256 * (c2 + 256 * (c3 + 256 * (c4 + 256 * (c5 + 256 * (c6 + 256 * c7))))))) + (c1 + 256 * (c2 + 256 * (c3 + 256 * (c4 + 256 * (c5 + 256 * (c6 + 256 * c7)))))) = (c0 + c1) + 256 * (c1 + c2) + 65536 * ((c2 + c3) + 256 * ((c3 + c4) + 256 * ((c4 + c5) + 256 * ((c5 + c6) + 256 * ((c6 + c7) + 256 * c7))))) by omega]
  rw [show ((c0 + c1) + 256 * (c1 + c2) + 65536 * ((c2 + c3) + 256 * ((c3 + c4) + 256 * ((c4 + c5) + 256 * ((c5 + c6) + 256 * ((c6 + c7) + 256 * c7)))))) / 65536 = ((c2 + c3) + 256 * ((c3 + c4) + 256 * ((c4 + c5) + 256 * ((c5 + c6) + 256 * ((c6 + c7) + 256 * c7))))) by omega]
  rw [show (c0 + c1) + 256 * (c1 + c2) + 65536 * ((c2 + c3) + 256 * ((c3 + c4) + 256 * ((c4 + c5) + 256 * ((c5 + c6) + 256 * ((c6 + c7) + 256 * c7))))) + ((c2 + c3) + 256 * ((c3 + c4) + 256 * ((c4 + c5) + 256 * ((c5 + c6) + 256 * ((c6 + c7) + 256 * c7))))) = ((c0 + c1 + c2 + c3) + 256 * ((c1 + c2 + c3 + c4) + 256 * ((c2 + c3 + c4 + c5) + 256 * (c3 + c4 + c5 + c6)))) + 4294967296 * ((c4 + c5 + c6 + c7) + 256 * ((c5 + c6 + c7) + 256 * ((c6 + c7) + 256 * c7))) by omega]
  rw [show (((c0 + c1 + c2 + c3) + 256 * ((c1 + c2 + c3 + c4) + 256 * ((c2 + c3 + c4 + c5) + 256 * (c3 + c4 + c5 + c6)))) + 4294967296 * ((c4 + c5 + c6 + c7) + 256 * ((c5 + c6 + c7) + 256 * ((c6 + c7) + 256 * c7)))) / 4294967296 = ((c4 + c5 + c6 + c7) + 256 * ((c5 + c6 + c7) + 256 * ((c6 + c7) + 256 * c7))) by omega]
  omega
theorem P3_ones (x : Nat) (h : x < 18446744073709551616) : fold3 (P3 8 x) = ones 64 x ∧ P3 8 x ≤ 578721382704613384 := by
  have hb : ∀ a, a < 256 → ones 8 a ≤ 8 := fun a ha => (b21 a ha).2.2.2
  obtain ⟨a0, y0, e0, l0, m0⟩ : ∃ a y, x = a + 256 * y ∧ a < 256 ∧ y < 256 ^ 7 := ⟨x % 256, x / 256, by omega, by omega, by omega⟩
  obtain ⟨a1, y1, e1, l1, m1⟩ : ∃ a y, y0 = a + 256 * y ∧ a < 256 ∧ y < 256 ^ 6 := ⟨y0 % 256, y0 / 256, by omega, by omega, by omega⟩
  obtain ⟨a2, y2, e2, l2, m2⟩ : ∃ a y, y1 = a + 256 * y ∧ a < 256 ∧ y < 256 ^ 5 := ⟨y1 % 256, y1 / 256, by omega, by omega, by omega⟩
  obtain ⟨a3, y3, e3, l3, m3⟩ : ∃ a y, y2 = a + 256 * y ∧ a < 256 ∧ y < 256 ^ 4 := ⟨y2 % 256, y2 / 256, by omega, by omega, by omega⟩
  obtain ⟨a4, y4, e4, l4, m4⟩ : ∃ a y, y3 = a + 256 * y ∧ a < 256 ∧ y < 256 ^ 3 := ⟨y3 % 256, y3 / 256, by omega, by omega, by omega⟩
  obtain ⟨a5, y5, e5, l5, m5⟩ : ∃ a y, y4 = a + 256 * y ∧ a < 256 ∧ y < 256 ^ 2 := ⟨y4 % 256, y4 / 256, by omega, by omega, by omega⟩
  obtain ⟨a6, y6, e6, l6, m6⟩ : ∃ a y, y5 = a + 256 * y ∧ a < 256 ∧ y < 256 ^ 1 := ⟨y5 % 256, y5 / 256, by omega, by omega, by omega⟩
  obtain ⟨a7, y7, e7, l7, m7⟩ : ∃ a y, y6 = a + 256 * y ∧ a < 256 ∧ y < 256 ^ 0 := ⟨y6 % 256, y6 / 256, by omega, by omega, by omega⟩
  have z : y7 = 0 := by omega
  have p : P3 8 x = ones 8 a0 + 256 * (ones 8 a1 + 256 * (ones 8 a2 + 256 * (ones 8 a3 + 256 * (ones 8 a4 + 256 * (ones 8 a5 + 256 * (ones 8 a6 + 256 * ones 8 a7)))))) := by
    rw [e0, P3_byte 7 _ _ l0 m0, e1, P3_byte 6 _ _ l1 m1, e2, P3_byte 5 _ _ l2 m2, e3, P3_byte 4 _ _ l3 m3, e4, P3_byte 3 _ _ l4 m4, e5, P3_byte 2 _ _ l5 m5, e6, P3_byte 1 _ _ l6 m6, e7, P3_byte 0 _ _ l7 m7, P3_zero, Nat.mul_zero, Nat.add_zero]
  have q : ones 64 x = ones 8 a0 + ones 8 a1 + ones 8 a2 + ones 8 a3 + ones 8 a4 + ones 8 a5 + ones 8 a6 + ones 8 a7 := by
    have o0 := ones_at 64 56 a0 y0 rfl l0
    have o1 := ones_at 56 48 a1 y1 rfl l1
    have o2 := ones_at 48 40 a2 y2 rfl l2
    have o3 := ones_at 40 32 a3 y3 rfl l3
    have o4 := ones_at 32 24 a4 y4 rfl l4
    have o5 := ones_at 24 16 a5 y5 rfl l5
    have o6 := ones_at 16 8 a6 y6 rfl l6
    have o7 := ones_at 8 0 a7 y7 rfl l7
    have o8 : ones 0 y7 = 0 := rfl
    rw [← e0] at o0; rw [← e1] at o1; rw [← e2] at o2; rw [← e3] at o3; rw [← e4] at o4; rw [← e5] at o5; rw [← e6] at o6; rw [← e7] at o7
    generalize ones 64 x = r at *
    generalize ones 56 y0 = r0 at *
    generalize ones 48 y1 = r1 at *
    generalize ones 40 y2 = r2 at *
    generalize ones 32 y3 = r3 at *
    generalize ones 24 y4 = r4 at *
    generalize ones 16 y5 = r5 at *
    generalize ones 8 y6 = r6 at *
    generalize ones 0 y7 = r7 at *
    clear e0 e1 e2 e3 e4 e5 e6 e7 m0 m1 m2 m3 m4 m5 m6 m7
    omega
  have k0 := hb _ l0; have k1 := hb _ l1; have k2 := hb _ l2; have k3 := hb _ l3; have k4 := hb _ l4; have k5 := hb _ l5; have k6 := hb _ l6; have k7 := hb _ l7
  rw [p, q]
  exact ⟨fold_sum _ _ _ _ _ _ _ _ k0 k1 k2 k3 k4 k5 k6 k7, by omega⟩
theorem msk85 : msk 85 8 = 6148914691236517205 := by decide
theorem msk51 : msk 51 8 = 3689348814741910323 := by decide
theorem msk15 : msk 15 8 = 1085102592571150095 := by decide
end Go.Proofs.Ytaofhooddbkglaa
