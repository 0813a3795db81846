/-
  PLAIN: a number's bytes; what is read of bytes; what things are written as.
-/
import Derived.Test.YtjocbokfdfdkeaaGreatChecked
import Derived.WalkKit
namespace Go.Proofs.YtjocbokfdfdkeaaGreat.YX
set_option maxRecDepth 100000
set_option linter.unusedVariables false
set_option linter.unusedSimpArgs false

abbrev Bs := List UInt8
theorem u8n {n : Nat} (h : n < 256) : (UInt8.ofNat n).toNat = n := by simp [Nat.mod_eq_of_lt h]
theorem n8u (b : UInt8) : UInt8.ofNat b.toNat = b := by simp
theorem u8lt (b : UInt8) : b.toNat < 256 := b.toNat_lt
/-- A number's bytes. -/
def numB (n : Nat) : Bs := if n < 128 then [UInt8.ofNat n] else UInt8.ofNat (n % 128 + 128) :: numB (n / 128)
termination_by n
decreasing_by omega
theorem numB_lo {n : Nat} (h : n < 128) : numB n = [UInt8.ofNat n] := by rw [numB, if_pos h]
theorem numB_hi {n : Nat} (h : ¬ n < 128) : numB n = UInt8.ofNat (n % 128 + 128) :: numB (n / 128) := by rw [numB, if_neg h]
theorem numB_len : ∀ (k n : Nat), n < 128 ^ (k + 1) → 1 ≤ (numB n).length ∧ (numB n).length ≤ k + 1
  | 0, n, h => by rw [numB_lo (by simpa using h)]; simp
  | k + 1, n, h => by
    by_cases q : n < 128
    · rw [numB_lo q]; simp
    · rw [numB_hi q]
      have := numB_len k (n / 128) (by rw [Nat.div_lt_iff_lt_mul (by decide)]; rw [Nat.pow_succ] at h; exact h)
      simp only [List.length_cons]
      omega
theorem numB_pos (n : Nat) : 1 ≤ (numB n).length := by
  by_cases q : n < 128
  · rw [numB_lo q]; simp
  · rw [numB_hi q]; simp
theorem numB_len64 {n : Nat} (h : n < 18446744073709551616) : (numB n).length ≤ 10 := (numB_len 9 n (by omega)).2
/-- A number read: which byte, what was read of it. -/
def goU : Nat → Nat → Bs → Option (Nat × Bs)
  | _, _, [] => none
  | i, acc, b :: r =>
    if i < 9 ∨ b.toNat ≤ 1 then
      if b.toNat < 128 then (if 0 < b.toNat ∨ i = 0 then some (acc + b.toNat % 128 * 128 ^ i, r) else none)
      else goU (i + 1) (acc + b.toNat % 128 * 128 ^ i) r
    else none
def rdU (l : Bs) : Option (Nat × Bs) := goU 0 0 l
theorem ten {i : Nat} (h : i ≤ 9) : i = 0 ∨ i = 1 ∨ i = 2 ∨ i = 3 ∨ i = 4 ∨ i = 5 ∨ i = 6 ∨ i = 7 ∨ i = 8 ∨ i = 9 := by omega
theorem goU_num : ∀ (n i acc : Nat) (r : Bs), i ≤ 9 → n * 128 ^ i < 18446744073709551616 → (n ≠ 0 ∨ i = 0) → goU i acc (numB n ++ r) = some (acc + n * 128 ^ i, r) := by
  intro n
  induction n using Nat.strongRecOn with
  | ind n ih =>
    intro i acc r hi hb hz
    by_cases q : n < 128
    · rw [numB_lo q, List.singleton_append, goU, u8n (by omega)]
      have h1 : i < 9 ∨ n ≤ 1 := by
        rcases ten hi with rfl | rfl | rfl | rfl | rfl | rfl | rfl | rfl | rfl | rfl <;> simp only [Nat.reducePow] at hb <;> omega
      rw [if_pos h1, if_pos q, if_pos (by omega), Nat.mod_eq_of_lt q]
    · rw [numB_hi q, List.cons_append, goU, u8n (by omega)]
      have h1 : i < 9 := by
        rcases ten hi with rfl | rfl | rfl | rfl | rfl | rfl | rfl | rfl | rfl | rfl <;> simp only [Nat.reducePow] at hb <;> omega
      have e : (n % 128 + 128) % 128 = n % 128 := by omega
      have e2 : n % 128 * 128 ^ i + n / 128 * 128 ^ (i + 1) = n * 128 ^ i := by
        rw [Nat.pow_succ, Nat.mul_comm (128 ^ i) 128, ← Nat.mul_assoc, ← Nat.add_mul, show n % 128 + n / 128 * 128 = n by omega]
      rw [if_pos (.inl h1), if_neg (by omega), e, ih (n / 128) (by omega) (i + 1) _ r (by omega) (by omega) (by omega)]
      rw [Nat.add_assoc, e2]
theorem goU_inv : ∀ (l : Bs) (i acc v : Nat) (r : Bs), i ≤ 9 → goU i acc l = some (v, r) → ∃ n, l = numB n ++ r ∧ v = acc + n * 128 ^ i ∧ (n ≠ 0 ∨ i = 0) ∧ n * 128 ^ i < 18446744073709551616 := by
  intro l
  induction l with
  | nil => intro i acc v r _ h; simp [goU] at h
  | cons b r0 ih =>
    intro i acc v r hi h
    have hb := u8lt b
    rw [goU] at h
    split at h
    · rename_i h1
      split at h
      · rename_i h2
        split at h
        · rename_i h3
          simp only [Option.some.injEq, Prod.mk.injEq] at h
          obtain ⟨rfl, rfl⟩ := h
          refine ⟨b.toNat, by rw [numB_lo h2, n8u]; rfl, by rw [Nat.mod_eq_of_lt h2], by omega, ?_⟩
          have h9 : i < 9 ∨ b.toNat ≤ 1 := h1
          generalize b.toNat = m at *
          rcases ten hi with q | q | q | q | q | q | q | q | q | q <;> rw [q] at h9 ⊢ <;> simp only [Nat.reducePow] <;> omega
        · cases h
      · rename_i h2
        have hi9 : i < 9 := by omega
        obtain ⟨n, e1, e2, e3, e4⟩ := ih (i + 1) _ v r (by omega) h
        have q : ¬ (n * 128 + b.toNat % 128) < 128 := by omega
        refine ⟨n * 128 + b.toNat % 128, ?_, ?_, by omega, ?_⟩
        · rw [numB_hi q, e1, show (n * 128 + b.toNat % 128) % 128 + 128 = b.toNat by omega, show (n * 128 + b.toNat % 128) / 128 = n by omega, n8u]; rfl
        · rw [e2, Nat.add_mul, Nat.pow_succ, Nat.mul_comm (128 ^ i) 128, ← Nat.mul_assoc]; omega
        · generalize b.toNat = m at *
          clear h ih e1 e2 q
          obtain ⟨K, hK⟩ : ∃ K, 18446744073709551616 = K * 128 ^ (i + 1) := ⟨2 * 128 ^ (8 - i), by
            rcases ten (Nat.le_of_lt hi9) with q | q | q | q | q | q | q | q | q | q <;> first | (subst q; rfl) | (exfalso; rw [q] at hi9; revert hi9; decide)⟩
          rw [hK] at e4 ⊢
          have h1 : n < K := Nat.lt_of_mul_lt_mul_right e4
          have h2 : (n + 1) * 128 ^ (i + 1) ≤ K * 128 ^ (i + 1) := Nat.mul_le_mul_right _ h1
          have h3 : (n * 128 + m % 128) * 128 ^ i < (n * 128 + 128) * 128 ^ i := Nat.mul_lt_mul_of_pos_right (Nat.add_lt_add_left (Nat.mod_lt _ (by decide)) _) (Nat.pow_pos (by decide))
          have h4 : (n * 128 + 128) * 128 ^ i = (n + 1) * 128 ^ (i + 1) := by rw [Nat.pow_succ, Nat.mul_comm (128 ^ i) 128, ← Nat.mul_assoc, Nat.add_mul n 1 128]
          exact Nat.lt_of_lt_of_le h3 (h4 ▸ h2)
    · cases h
theorem rdU_num {n : Nat} (h : n < 18446744073709551616) (r : Bs) : rdU (numB n ++ r) = some (n, r) := by
  have := goU_num n 0 0 r (by omega) (by simpa using h) (.inr rfl)
  simpa [rdU] using this
theorem rdU_inv {l : Bs} {v : Nat} {r : Bs} (h : rdU l = some (v, r)) : l = numB v ++ r ∧ v < 18446744073709551616 := by
  obtain ⟨n, e1, e2, _, e4⟩ := goU_inv l 0 0 v r (by omega) h
  simp at e2 e4
  subst e2
  exact ⟨e1, e4⟩
/-- What stands behind doesn't matter. -/
theorem rdU_more {l : Bs} {v : Nat} {r : Bs} (h : rdU l = some (v, r)) (q : Bs) : rdU (l ++ q) = some (v, r ++ q) := by
  obtain ⟨e, hv⟩ := rdU_inv h
  rw [e, List.append_assoc, rdU_num hv]
theorem rdU_rest {l : Bs} {v : Nat} {r : Bs} (h : rdU l = some (v, r)) : r.length < l.length := by
  obtain ⟨e, hv⟩ := rdU_inv h
  have := numB_pos v
  rw [e, List.length_append]; omega
def rdB : Bs → Option (Nat × Bs)
  | [] => none
  | b :: r => some (b.toNat, r)
def rdT : Bs → Option (Nat × Bs)
  | [] => none
  | b :: r => if b.toNat ≤ 1 then some (b.toNat, r) else none
def rdS (l : Bs) : Option (Bs × Bs) :=
  match rdU l with
  | none => none
  | some (n, r) => if n ≤ 255 ∧ n ≤ r.length then some (r.take n, r.drop n) else none
/-- A signed number's, and back. -/
def intN (i : Int) : Nat := if i < 0 then 2 * (-(i + 1)).toNat + 1 else 2 * i.toNat
def natI (n : Nat) : Int := if n % 2 = 1 then -((n / 2 : Nat) : Int) - 1 else ((n / 2 : Nat) : Int)
def toI (n : Nat) : Int := if n < 9223372036854775808 then (n : Int) else (n : Int) - 18446744073709551616
def toU (i : Int) : Nat := if i < 0 then (i + 18446744073709551616).toNat else i.toNat
theorem natI_intN (i : Int) : natI (intN i) = i := by unfold natI intN; split <;> split <;> omega
theorem intN_natI (n : Nat) : intN (natI n) = n := by unfold natI intN; split <;> split <;> omega
theorem intN_lt {i : Int} (h1 : -9223372036854775808 ≤ i) (h2 : i < 9223372036854775808) : intN i < 18446744073709551616 := by unfold intN; split <;> omega
theorem natI_ge {n : Nat} (h : n < 18446744073709551616) : -9223372036854775808 ≤ natI n ∧ natI n < 9223372036854775808 := by unfold natI; split <;> omega
theorem toI_r {n : Nat} (h : n < 18446744073709551616) : -9223372036854775808 ≤ toI n ∧ toI n < 9223372036854775808 := by unfold toI; split <;> omega
theorem toI_toU {i : Int} (h1 : -9223372036854775808 ≤ i) (h2 : i < 9223372036854775808) : toI (toU i) = i := by unfold toI toU; split <;> split <;> omega
theorem toU_toI {n : Nat} (h : n < 18446744073709551616) : toU (toI n) = n := by unfold toI toU; split <;> split <;> omega
theorem toU_lt {i : Int} (h1 : -9223372036854775808 ≤ i) (h2 : i < 9223372036854775808) : toU i < 18446744073709551616 := by unfold toU; split <;> omega
/-- A thing. -/
structure Th where
  k : Nat
  n : Nat
  s : Bs
structure ThOk (x : Th) : Prop where
  k : x.k < 256
  n : x.n < 18446744073709551616
def thB (x : Th) : Bs :=
  if x.k % 5 = 0 then [UInt8.ofNat (x.n % 256)]
  else if x.k % 5 = 1 then [UInt8.ofNat (x.n % 2)]
  else if x.k % 5 = 2 then numB x.n
  else if x.k % 5 = 3 then numB (intN (toI x.n))
  else numB x.s.length ++ x.s
theorem thB_pos (x : Th) : 1 ≤ (thB x).length := by
  unfold thB
  split
  · simp
  split
  · simp
  split
  · exact numB_pos _
  split
  · exact numB_pos _
  · have := numB_pos x.s.length
    rw [List.length_append]; omega
/-- What is told where a thing of a kind is read: its number, its text; what is left. -/
def rdK (k : Nat) (l : Bs) : Option ((Nat × Bs) × Bs) :=
  if k % 5 = 0 then (rdB l).map fun x => ((x.1, []), x.2)
  else if k % 5 = 1 then (rdT l).map fun x => ((x.1, []), x.2)
  else if k % 5 = 2 then (rdU l).map fun x => ((x.1, []), x.2)
  else if k % 5 = 3 then (rdU l).map fun x => ((toU (natI x.1), []), x.2)
  else (rdS l).map fun x => ((0, x.1), x.2)
theorem rdB_more {l : Bs} {v : Nat} {r : Bs} (h : rdB l = some (v, r)) (q : Bs) : rdB (l ++ q) = some (v, r ++ q) := by
  cases l with
  | nil => simp [rdB] at h
  | cons b l => simp [rdB] at h ⊢; obtain ⟨rfl, rfl⟩ := h; exact ⟨rfl, rfl⟩
theorem rdT_more {l : Bs} {v : Nat} {r : Bs} (h : rdT l = some (v, r)) (q : Bs) : rdT (l ++ q) = some (v, r ++ q) := by
  cases l with
  | nil => simp [rdT] at h
  | cons b l =>
    simp only [rdT] at h
    split at h
    · rename_i h1
      simp only [Option.some.injEq, Prod.mk.injEq] at h
      obtain ⟨rfl, rfl⟩ := h
      simp [rdT, h1]
    · cases h
theorem rdS_more {l : Bs} {v : Bs} {r : Bs} (h : rdS l = some (v, r)) (q : Bs) : rdS (l ++ q) = some (v, r ++ q) := by
  unfold rdS at h ⊢
  cases e : rdU l with
  | none => simp [e] at h
  | some x =>
    obtain ⟨n, r1⟩ := x
    rw [rdU_more e]
    simp only [e] at h ⊢
    split at h
    · rename_i h1
      simp only [Option.some.injEq, Prod.mk.injEq] at h
      obtain ⟨rfl, rfl⟩ := h
      rw [if_pos ⟨h1.1, by rw [List.length_append]; omega⟩, List.take_append_of_le_length h1.2, List.drop_append_of_le_length h1.2]
    · cases h
theorem rdK_more {k : Nat} {l : Bs} {v : Nat × Bs} {r : Bs} (h : rdK k l = some (v, r)) (q : Bs) : rdK k (l ++ q) = some (v, r ++ q) := by
  unfold rdK at h ⊢
  split
  · rename_i c; rw [if_pos c] at h
    obtain ⟨x, h1, h2⟩ := Option.map_eq_some_iff.1 h
    rw [rdB_more (v := x.1) (r := x.2) h1]; simp at h2 ⊢; exact ⟨h2.1, by rw [h2.2]⟩
  rename_i c; rw [if_neg c] at h
  split
  · rename_i c; rw [if_pos c] at h
    obtain ⟨x, h1, h2⟩ := Option.map_eq_some_iff.1 h
    rw [rdT_more (v := x.1) (r := x.2) h1]; simp at h2 ⊢; exact ⟨h2.1, by rw [h2.2]⟩
  rename_i c; rw [if_neg c] at h
  split
  · rename_i c; rw [if_pos c] at h
    obtain ⟨x, h1, h2⟩ := Option.map_eq_some_iff.1 h
    rw [rdU_more (v := x.1) (r := x.2) h1]; simp at h2 ⊢; exact ⟨h2.1, by rw [h2.2]⟩
  rename_i c; rw [if_neg c] at h
  split
  · rename_i c; rw [if_pos c] at h
    obtain ⟨x, h1, h2⟩ := Option.map_eq_some_iff.1 h
    rw [rdU_more (v := x.1) (r := x.2) h1]; simp at h2 ⊢; exact ⟨h2.1, by rw [h2.2]⟩
  · rename_i c; rw [if_neg c] at h
    obtain ⟨x, h1, h2⟩ := Option.map_eq_some_iff.1 h
    rw [rdS_more (v := x.1) (r := x.2) h1]; simp at h2 ⊢; exact ⟨h2.1, by rw [h2.2]⟩
/-- What a thing reads as. -/
def thV (x : Th) : Nat × Bs :=
  if x.k % 5 = 0 then (x.n % 256, []) else if x.k % 5 = 1 then (x.n % 2, []) else if x.k % 5 = 2 then (x.n, []) else if x.k % 5 = 3 then (x.n, []) else (0, x.s)
theorem rdS_th {s : Bs} (h : s.length ≤ 255) (r : Bs) : rdS (numB s.length ++ s ++ r) = some (s, r) := by
  unfold rdS
  rw [List.append_assoc, rdU_num (by omega)]
  simp [h]
theorem rdK_th {x : Th} (hx : ThOk x) (hs : x.k % 5 = 4 → x.s.length ≤ 255) (r : Bs) : rdK x.k (thB x ++ r) = some (thV x, r) := by
  unfold rdK thB thV
  have := Nat.mod_lt x.k (show 0 < 5 by decide)
  split
  · simp [rdB]
  split
  · have h1 : x.n % 2 < 256 := by omega
    simp [rdT]; omega
  split
  · rw [rdU_num hx.n]; rfl
  split
  · rw [rdU_num (intN_lt (toI_r hx.n).1 (toI_r hx.n).2)]
    simp [natI_intN, toU_toI hx.n]
  · rw [rdS_th (hs (by omega))]; rfl
/-- What is read is what its bytes say. -/
theorem rdK_inv {k : Nat} {l : Bs} {v : Nat × Bs} {r : Bs} (hk : k < 256) (h : rdK k l = some (v, r)) : l = thB ⟨k, v.1, v.2⟩ ++ r ∧ ThOk ⟨k, v.1, v.2⟩ ∧ v.2.length ≤ 255 ∧ (k % 5 ≠ 4 → v.2 = []) := by
  unfold rdK at h
  unfold thB
  have h5 := Nat.mod_lt k (show 0 < 5 by decide)
  simp only
  split at h
  · rename_i c
    obtain ⟨⟨n, r1⟩, h1, h2⟩ := Option.map_eq_some_iff.1 h
    simp at h2; obtain ⟨rfl, rfl⟩ := h2
    cases l with
    | nil => simp [rdB] at h1
    | cons b l =>
      simp [rdB] at h1; obtain ⟨rfl, rfl⟩ := h1
      have := u8lt b
      rw [if_pos c]
      refine ⟨by simp, ⟨hk, by simp only; omega⟩, by simp, fun _ => rfl⟩
  rename_i c0
  split at h
  · rename_i c
    obtain ⟨⟨n, r1⟩, h1, h2⟩ := Option.map_eq_some_iff.1 h
    simp at h2; obtain ⟨rfl, rfl⟩ := h2
    cases l with
    | nil => simp [rdT] at h1
    | cons b l =>
      simp only [rdT] at h1
      split at h1
      · rename_i hb
        simp only [Option.some.injEq, Prod.mk.injEq] at h1
        obtain ⟨rfl, rfl⟩ := h1
        rw [if_neg c0, if_pos c]
        refine ⟨?_, ⟨hk, by simp only; omega⟩, by simp, fun _ => rfl⟩
        simp [Nat.mod_eq_of_lt (show b.toNat < 2 by omega)]
      · cases h1
  rename_i c1
  split at h
  · rename_i c
    obtain ⟨⟨n, r1⟩, h1, h2⟩ := Option.map_eq_some_iff.1 h
    simp at h2; obtain ⟨rfl, rfl⟩ := h2
    obtain ⟨e, hv⟩ := rdU_inv h1
    rw [if_neg c0, if_neg c1, if_pos c]
    exact ⟨e, ⟨hk, hv⟩, by simp, fun _ => rfl⟩
  rename_i c2
  split at h
  · rename_i c
    obtain ⟨⟨n, r1⟩, h1, h2⟩ := Option.map_eq_some_iff.1 h
    simp at h2; obtain ⟨rfl, rfl⟩ := h2
    obtain ⟨e, hv⟩ := rdU_inv h1
    have hr := natI_ge hv
    rw [if_neg c0, if_neg c1, if_neg c2, if_pos c]
    refine ⟨?_, ⟨hk, toU_lt hr.1 hr.2⟩, by simp, fun _ => rfl⟩
    simp only
    rw [toI_toU hr.1 hr.2, intN_natI]; exact e
  · rename_i c
    obtain ⟨⟨n, r1⟩, h1, h2⟩ := Option.map_eq_some_iff.1 h
    simp at h2; obtain ⟨rfl, rfl⟩ := h2
    unfold rdS at h1
    cases e : rdU l with
    | none => simp [e] at h1
    | some y =>
      obtain ⟨m, r2⟩ := y
      simp only [e] at h1
      split at h1
      · rename_i h3
        simp only [Option.some.injEq, Prod.mk.injEq] at h1
        obtain ⟨rfl, rfl⟩ := h1
        obtain ⟨e2, hv⟩ := rdU_inv e
        have hl : (r2.take m).length = m := by rw [List.length_take]; omega
        rw [if_neg c0, if_neg c1, if_neg c2, if_neg c]
        refine ⟨?_, ⟨hk, by simp⟩, by simp only; omega, fun q => by omega⟩
        simp only
        rw [hl, List.append_assoc, List.take_append_drop]; exact e2
      · cases h1
/-- A writer's bytes, or none: it has failed. -/
def addW (s : Option Bs) (b : Bs) : Option Bs :=
  match s with
  | none => none
  | some l => if 65536 < l.length + b.length then none else some (l ++ b)
def wrT (s : Option Bs) (x : Th) : Option Bs := if x.k % 5 = 4 ∧ 255 < x.s.length then none else addW s (thB x)
def wrL (s : Option Bs) (l : List Th) : Option Bs := l.foldl wrT s
def enc (l : List Th) : Bs := l.flatMap thB
theorem wrL_none (l : List Th) : wrL none l = none := by
  induction l with
  | nil => rfl
  | cons x l ih =>
    have : wrT none x = none := by unfold wrT addW; split <;> rfl
    show l.foldl wrT (wrT none x) = none
    rw [this]; exact ih
theorem wrT_none (x : Th) : wrT none x = none := by unfold wrT addW; split <;> rfl
theorem wrL_next {l : List Th} {i : Nat} (h : i < l.length) (s : Option Bs) : wrL s (l.take (i + 1)) = wrT (wrL s (l.take i)) l[i] := by
  unfold wrL
  rw [List.take_succ_eq_append_getElem h, List.foldl_append]; rfl
theorem wrL_some {l : List Th} {a b : Bs} (h : wrL (some a) l = some b) : b = a ++ enc l ∧ (∀ x ∈ l, x.k % 5 = 4 → x.s.length ≤ 255) := by
  induction l generalizing a with
  | nil => simp [wrL] at h; subst h; simp [enc]
  | cons x l ih =>
    have e : wrL (some a) (x :: l) = wrL (wrT (some a) x) l := rfl
    rw [e] at h
    unfold wrT at h
    split at h
    · rw [wrL_none] at h; cases h
    · rename_i h1
      unfold addW at h
      simp only at h
      split at h
      · rw [wrL_none] at h; cases h
      · obtain ⟨h2, h3⟩ := ih h
        refine ⟨by rw [h2]; simp [enc], fun y hy => ?_⟩
        rcases List.mem_cons.1 hy with rfl | hy
        · intro q; omega
        · exact h3 y hy
theorem wrL_ok {l : List Th} {a : Bs} (hs : ∀ x ∈ l, x.k % 5 = 4 → x.s.length ≤ 255) (hl : (a ++ enc l).length ≤ 65536) : wrL (some a) l = some (a ++ enc l) := by
  induction l generalizing a with
  | nil => simp [wrL, enc]
  | cons x l ih =>
    have e : wrL (some a) (x :: l) = wrL (wrT (some a) x) l := rfl
    have e2 : enc (x :: l) = thB x ++ enc l := rfl
    rw [e2, List.length_append, List.length_append] at hl
    have h0 := hs x List.mem_cons_self
    have e3 : wrT (some a) x = some (a ++ thB x) := by
      unfold wrT addW
      rw [if_neg (by omega)]
      simp only
      rw [if_neg (by omega)]
    rw [e, e3, ih (fun y hy => hs y (List.mem_cons_of_mem _ hy)) (by rw [List.length_append, List.length_append]; omega), e2, List.append_assoc]
theorem enc_app (a b : List Th) : enc (a ++ b) = enc a ++ enc b := by simp [enc]
theorem enc_next {l : List Th} {i : Nat} (h : i < l.length) : enc (l.drop i) = thB l[i] ++ enc (l.drop (i + 1)) := by
  rw [List.drop_eq_getElem_cons h]; rfl
end Go.Proofs.YtjocbokfdfdkeaaGreat.YX
