/-
  PLAIN: a stamp's numbers: which may be, how two stand to each other, what changes make of them, their text and what is read of a text.
-/
import Derived.Test.YtecdcfmbhphagaaFMath
import Derived.WalkKit
namespace Go.Proofs.Ytecdcfmbhphagaa.UX
open FixMath
set_option maxRecDepth 100000
set_option linter.unusedVariables false
set_option linter.unusedSimpArgs false

def mayS (d s : Int) : Bool := decide ((d = 0 ∧ s = 0) ∨ (1 ≤ d ∧ d ≤ 1048576 ∧ 1 ≤ s ∧ s ≤ 1048576))
theorem mayS_iff {d s : Int} : mayS d s = true ↔ (d = 0 ∧ s = 0) ∨ (1 ≤ d ∧ d ≤ 1048576 ∧ 1 ≤ s ∧ s ≤ 1048576) := by simp [mayS]
theorem mayS_f {d s : Int} : mayS d s = false ↔ ¬ ((d = 0 ∧ s = 0) ∨ (1 ≤ d ∧ d ≤ 1048576 ∧ 1 ≤ s ∧ s ≤ 1048576)) := by simp [mayS]

def ofS (a b c d : Int) : Int := if a = c ∧ b = d then 0 else if a ≤ c ∧ b ≤ d then 1 else if c ≤ a ∧ d ≤ b then 2 else 3

/-- How much a change of a kind adds. -/
def addD (k : Nat) : Int := if k = 1 ∨ k = 2 ∨ k = 4 then 1 else 0
def addS (k : Nat) : Int := if k = 1 ∨ k = 3 then 1 else 0
def canS (d s : Int) (k : Nat) : Bool := mayS d s && (decide (1 ≤ k ∧ k ≤ 4) && !(decide (d = 0) && !decide (k = 1)))
/-- Next: the stamp, and the error. -/
def nxD (d s : Int) (k : Nat) : Int := if canS d s k = true ∧ mayS (d + addD k) (s + addS k) = true then d + addD k else 0
def nxS (d s : Int) (k : Nat) : Int := if canS d s k = true ∧ mayS (d + addD k) (s + addS k) = true then s + addS k else 0
def nxE (d s : Int) (k : Nat) : Int := if canS d s k = true then (if mayS (d + addD k) (s + addS k) = true then 0 else 4) else 2

/-- Of a stamp and a row of kinds: the stamp at last, how many were made, the error. -/
def allS : Int → Int → List Nat → Int × Int × Nat × Int
  | d, s, [] => (d, s, 0, 0)
  | d, s, k :: l => if nxE d s k = 0 then ((allS (nxD d s k) (nxS d s k) l).1, (allS (nxD d s k) (nxS d s k) l).2.1, (allS (nxD d s k) (nxS d s k) l).2.2.1 + 1, (allS (nxD d s k) (nxS d s k) l).2.2.2) else (d, s, 0, nxE d s k)

/-- A number's digits. -/
def nt (n : Nat) : Bs := low (nd n) n
theorem nt_len (n : Nat) : (nt n).length = nd n := low_length _ _
theorem nt_dig (n : Nat) : ∀ c ∈ nt n, isDig c = true := low_dig _ _
theorem nt_val (n : Nat) : val (nt n) = n := val_nd n
theorem nt_inj {a b : Nat} (h : nt a = nt b) : a = b := by rw [← nt_val a, ← nt_val b, h]
theorem nt_len7 {n : Nat} (h : n ≤ 1048576) : (nt n).length ≤ 7 := by rw [nt_len]; exact nd_le (by omega) (by omega)
theorem nt_ne (n : Nat) : nt n ≠ [] := fun e => by
  have h := nt_len n
  rw [e] at h
  have := nd_pos n
  simp at h; omega
/-- What the document takes for a number. -/
def isNum (l : Bs) : Prop := 1 ≤ l.length ∧ l.length ≤ 7 ∧ (∀ c ∈ l, isDig c = true) ∧ ¬ (1 < l.length ∧ l[0]? = some 48)
theorem isNum_nt {l : Bs} (h : isNum l) : nt (val l) = l := by
  unfold nt
  rw [nd_of_digits h.2.2.1 h.1 h.2.2.2]
  exact low_val' l h.2.2.1
theorem nt_isNum {n : Nat} (h : n ≤ 1048576) : isNum (nt n) := by
  refine ⟨by rw [nt_len]; exact nd_pos n, nt_len7 h, nt_dig n, ?_⟩
  rintro ⟨h1, h0⟩
  rw [nt_len] at h1
  obtain ⟨j, hj⟩ : ∃ j, nd n = j + 1 := ⟨nd n - 1, by omega⟩
  have hnz := lt_nd (n := n) (j := j) (by omega) (by omega)
  unfold nt at h0
  rw [hj, low_succ] at h0
  have hlt := nd_lt n
  rw [hj] at hlt
  simp at h0
  have e1 : (dig (n / 10 ^ j)).toNat = 48 := by rw [h0]; rfl
  rw [dig_toNat] at e1
  have e2 : n / 10 ^ j < 10 := by
    rw [Nat.div_lt_iff_lt_mul (pow_pos' j), Nat.mul_comm, ← Nat.pow_succ]; exact hlt
  clear hlt
  generalize n / 10 ^ j = q at *
  omega

/-- A stamp's text. -/
def txS (d s : Nat) : Bs := nt d ++ 46 :: nt s
theorem txS_inj {a b c d : Nat} (h : txS a b = txS c d) : a = c ∧ b = d := by
  obtain ⟨h1, h2⟩ := split_dot (nt_dig a) (nt_dig c) h
  exact ⟨nt_inj h1, nt_inj h2⟩
theorem txS_len {a b : Nat} (h : a ≤ 1048576) (k : b ≤ 1048576) : (txS a b).length ≤ 15 := by
  have := nt_len7 h; have := nt_len7 k
  unfold txS
  rw [List.length_append, List.length_cons]; omega
/-- These bytes are the text of these numbers, which may be. -/
def isTx (l : Bs) (d s : Nat) : Prop := mayS d s = true ∧ l = txS d s
theorem isTx_one {l : Bs} {a b c d : Nat} (h : isTx l a b) (k : isTx l c d) : a = c ∧ b = d := txS_inj (h.2.symm.trans k.2)
theorem may_bd {d s : Int} (h : mayS d s = true) : 0 ≤ d ∧ d ≤ 1048576 ∧ 0 ≤ s ∧ s ≤ 1048576 := by
  rcases mayS_iff.1 h with h | h <;> omega
open Classical in
/-- What a text is parsed to. -/
noncomputable def paD (l : Bs) : Nat := if h : ∃ d s, isTx l d s then h.choose else 0
open Classical in
noncomputable def paS (l : Bs) : Nat := if h : ∃ d s, isTx l d s then h.choose_spec.choose else 0
open Classical in
noncomputable def paE (l : Bs) : Int := if ∃ d s, isTx l d s then 0 else 120
theorem pa_hit {l : Bs} {d s : Nat} (h : isTx l d s) : paD l = d ∧ paS l = s ∧ paE l = 0 := by
  have e : ∃ d s, isTx l d s := ⟨d, s, h⟩
  have k := isTx_one e.choose_spec.choose_spec h
  unfold paD paS paE
  rw [dif_pos e, dif_pos e, if_pos e]
  exact ⟨k.1, k.2, rfl⟩
theorem pa_miss {l : Bs} (h : ¬ ∃ d s, isTx l d s) : paD l = 0 ∧ paS l = 0 ∧ paE l = 120 := by
  unfold paD paS paE
  rw [dif_neg h, dif_neg h, if_neg h]
  exact ⟨rfl, rfl, rfl⟩
theorem pa_cases (l : Bs) : (isTx l (paD l) (paS l) ∧ paE l = 0) ∨ (paD l = 0 ∧ paS l = 0 ∧ paE l = 120) := by
  by_cases e : ∃ d s, isTx l d s
  · obtain ⟨d, s, h⟩ := e
    obtain ⟨h1, h2, h3⟩ := pa_hit h
    rw [h1, h2]; exact .inl ⟨h, h3⟩
  · exact .inr (pa_miss e)
/-- Cut at its first dot. -/
theorem tx_cut {l a b : Bs} (h : l = a ++ 46 :: b) (ha : (46 : UInt8) ∉ a) {d s : Nat} (k : isTx l d s) : a = nt d ∧ b = nt s := by
  obtain ⟨_, k⟩ := k
  rw [h] at k
  unfold txS at k
  have hd : (46 : UInt8) ∉ nt d := no_dot (nt_dig d)
  clear h
  revert hd k
  generalize nt d = x
  generalize nt s = y
  intro k hd
  revert x
  induction a with
  | nil =>
    intro x k hd
    cases x with
    | nil => simp at k; exact ⟨rfl, k⟩
    | cons c t => simp at k; exact absurd (by rw [← k.1]; exact List.mem_cons_self ..) hd
  | cons c t ih =>
    intro x k hd
    cases x with
    | nil => simp at k; exact absurd (by rw [k.1]; exact List.mem_cons_self ..) ha
    | cons c' t' =>
      simp at k
      obtain ⟨rfl, k⟩ := k
      have := ih (fun hm => ha (List.mem_cons_of_mem _ hm)) t' k (fun hm => hd (List.mem_cons_of_mem _ hm))
      exact ⟨by rw [this.1], this.2⟩
theorem tx_dot {l : Bs} {d s : Nat} (k : isTx l d s) : (46 : UInt8) ∈ l := by rw [k.2]; unfold txS; simp

/-! ## the order -/
theorem ofS_same {a b c d : Int} : ofS a b c d = 0 ↔ a = c ∧ b = d := by
  unfold ofS; split
  · simp [*]
  · rename_i h; constructor
    · intro k; split at k
      · omega
      · split at k <;> omega
    · intro k; exact absurd k h
theorem ofS_ahead {a b c d : Int} : ofS a b c d = 1 ↔ (a ≤ c ∧ b ≤ d) ∧ ¬ (a = c ∧ b = d) := by
  unfold ofS; split
  · rename_i h; constructor
    · intro k; omega
    · intro k; exact absurd h k.2
  · rename_i h; split
    · rename_i h2; simp [h2]; exact fun e e2 => h ⟨e, e2⟩
    · rename_i h2; constructor
      · intro k; split at k <;> omega
      · intro k; exact absurd k.1 h2
theorem ofS_behind {a b c d : Int} : ofS a b c d = 2 ↔ (c ≤ a ∧ d ≤ b) ∧ ¬ (a = c ∧ b = d) := by
  unfold ofS; split
  · rename_i h; constructor
    · intro k; omega
    · intro k; exact absurd h k.2
  · rename_i h; split
    · rename_i h2; constructor
      · intro k; omega
      · intro k; omega
    · rename_i h2; split
      · rename_i h3; simp [h3]; exact fun e e2 => h ⟨e, e2⟩
      · rename_i h3; constructor
        · intro k; omega
        · intro k; exact absurd k.1 h3
theorem ofS_cases (a b c d : Int) : ofS a b c d = 0 ∨ ofS a b c d = 1 ∨ ofS a b c d = 2 ∨ ofS a b c d = 3 := by
  unfold ofS; split
  · exact .inl rfl
  · split
    · exact .inr (.inl rfl)
    · split
      · exact .inr (.inr (.inl rfl))
      · exact .inr (.inr (.inr rfl))
theorem ofS_mirror (a b c d : Int) : (ofS a b c d = 1 ↔ ofS c d a b = 2) ∧ (ofS a b c d = 3 ↔ ofS c d a b = 3) := by
  have h1 := @ofS_ahead a b c d; have h2 := @ofS_behind a b c d; have h3 := @ofS_same a b c d
  have k1 := @ofS_ahead c d a b; have k2 := @ofS_behind c d a b; have k3 := @ofS_same c d a b
  have c1 := ofS_cases a b c d; have c2 := ofS_cases c d a b
  generalize ofS a b c d = x at *
  generalize ofS c d a b = y at *
  constructor
  · omega
  · constructor
    · intro e; subst e
      simp at h1 h2 h3
      rcases c2 with e | e | e | e <;> subst e <;> simp at k1 k2 k3 ⊢ <;> omega
    · intro e; subst e
      simp at k1 k2 k3
      rcases c1 with e | e | e | e <;> subst e <;> simp at h1 h2 h3 ⊢ <;> omega
theorem ofS_trans {a b c d e f : Int} (h : ofS a b c d = 1) (k : ofS c d e f = 1) : ofS a b e f = 1 := by
  rw [ofS_ahead] at *; omega

/-! ## what changes make -/
theorem addD_le (k : Nat) : 0 ≤ addD k ∧ addD k ≤ 1 := by unfold addD; split <;> omega
theorem addS_le (k : Nat) : 0 ≤ addS k ∧ addS k ≤ 1 := by unfold addS; split <;> omega
theorem canS_iff {d s : Int} {k : Nat} : canS d s k = true ↔ mayS d s = true ∧ (1 ≤ k ∧ k ≤ 4) ∧ (d = 0 → k = 1) := by
  unfold canS
  simp only [Bool.and_eq_true, decide_eq_true_eq, Bool.not_eq_true', Bool.and_eq_false_imp, Bool.not_eq_false', decide_eq_true_eq]
theorem nxE_0 {d s : Int} {k : Nat} (h : nxE d s k = 0) : canS d s k = true ∧ mayS (d + addD k) (s + addS k) = true ∧ nxD d s k = d + addD k ∧ nxS d s k = s + addS k := by
  unfold nxE at h
  split at h
  · rename_i h1; split at h
    · rename_i h2
      refine ⟨h1, h2, ?_, ?_⟩
      · unfold nxD; rw [if_pos ⟨h1, h2⟩]
      · unfold nxS; rw [if_pos ⟨h1, h2⟩]
    · omega
  · omega
theorem nx_none {d s : Int} {k : Nat} (h : nxE d s k ≠ 0) : nxD d s k = 0 ∧ nxS d s k = 0 := by
  have key : ¬ (canS d s k = true ∧ mayS (d + addD k) (s + addS k) = true) := by
    rintro ⟨h1, h2⟩
    apply h
    unfold nxE; rw [if_pos h1, if_pos h2]
  unfold nxD nxS
  rw [if_neg key, if_neg key]; exact ⟨rfl, rfl⟩
theorem nxE_cases (d s : Int) (k : Nat) : nxE d s k = 0 ∨ nxE d s k = 2 ∨ nxE d s k = 4 := by
  unfold nxE; split
  · split
    · exact .inl rfl
    · exact .inr (.inr rfl)
  · exact .inr (.inl rfl)
theorem add_one {k : Nat} (h : 1 ≤ k ∧ k ≤ 4) : 1 ≤ addD k + addS k := by
  have : k = 1 ∨ k = 2 ∨ k = 3 ∨ k = 4 := by omega
  rcases this with rfl | rfl | rfl | rfl <;> decide
theorem nx_ahead {d s : Int} {k : Nat} (h : nxE d s k = 0) : ofS d s (nxD d s k) (nxS d s k) = 1 := by
  obtain ⟨h1, h2, h3, h4⟩ := nxE_0 h
  have a1 := addD_le k; have a2 := addS_le k; have a3 := add_one (canS_iff.1 h1).2.1
  rw [h3, h4, ofS_ahead]; omega
end Go.Proofs.Ytecdcfmbhphagaa.UX
