/-
  PLAIN MATHEMATICS: decimal digits of naturals as bytes, the text of a fixed-point number, what a reading of a text gives. No dump.
-/
namespace Go.Proofs.Ytecdcfmbhphagaa.FixMath

abbrev Bs := List UInt8

/-- The digit of the ones. -/
def dig (n : Nat) : UInt8 := UInt8.ofNat (48 + n % 10)

theorem dig_toNat (n : Nat) : (dig n).toNat = 48 + n % 10 := by
  unfold dig
  rw [UInt8.toNat_ofNat']
  omega

/-- The lowest k digits of n. -/
def low : Nat → Nat → Bs
  | 0, _ => []
  | k + 1, n => dig (n / 10 ^ k) :: low k n

theorem low_length (k n : Nat) : (low k n).length = k := by
  induction k with
  | zero => rfl
  | succ k ih => simp [low, ih]

theorem low_zero (n : Nat) : low 0 n = [] := rfl
theorem low_succ (k n : Nat) : low (k + 1) n = dig (n / 10 ^ k) :: low k n := rfl

theorem div_pow_succ (n k : Nat) : n / 10 ^ k / 10 = n / 10 ^ (k + 1) := by
  rw [Nat.div_div_eq_div_mul, Nat.pow_succ]

theorem pow_pos' (k : Nat) : 0 < 10 ^ k := Nat.pow_pos (by omega)

/-- Digits of the lower part are those of the whole. -/
theorem low_mod (k d n : Nat) (h : k ≤ d) : low k (n % 10 ^ d) = low k n := by
  induction k with
  | zero => rfl
  | succ k ih =>
    rw [low_succ, low_succ, ih (by omega)]
    have e : dig (n % 10 ^ d / 10 ^ k) = dig (n / 10 ^ k) := by
      unfold dig
      have e1 : n % 10 ^ d / 10 ^ k % 10 = n / 10 ^ k % 10 := by
        obtain ⟨j, rfl⟩ : ∃ j, d = k + 1 + j := ⟨d - (k + 1), by omega⟩
        have h2 : 10 ^ (k + 1 + j) = 10 ^ k * (10 * 10 ^ j) := by rw [Nat.pow_add, Nat.pow_succ, Nat.mul_assoc]
        rw [h2, Nat.mod_mul_right_div_self, Nat.mod_mul_right_mod]
      rw [e1]
    rw [e]

/-- How many digits n has, at least one. -/
def nd (n : Nat) : Nat := if h : n < 10 then 1 else nd (n / 10) + 1
termination_by n
decreasing_by omega

theorem nd_pos (n : Nat) : 1 ≤ nd n := by
  unfold nd
  split <;> omega

theorem nd_iff (j : Nat) : ∀ n, 1 ≤ j → (n / 10 ^ j = 0 ↔ nd n ≤ j) := by
  induction j with
  | zero => intro n h; omega
  | succ j ih =>
    intro n _
    rw [Nat.pow_succ, Nat.mul_comm, ← Nat.div_div_eq_div_mul]
    by_cases hn : n < 10
    · have e : n / 10 = 0 := by omega
      rw [e, Nat.zero_div]
      have : nd n = 1 := by unfold nd; rw [dif_pos hn]
      rw [this]
      constructor
      · intro _; omega
      · intro _; rfl
    · have e : nd n = nd (n / 10) + 1 := by rw [nd, dif_neg hn]
      rw [e]
      by_cases hj : j = 0
      · subst hj
        have := nd_pos (n / 10)
        simp
        omega
      · rw [ih (n / 10) (by omega)]
        omega

theorem nd_le {n j : Nat} (h1 : 1 ≤ j) (h : n < 10 ^ j) : nd n ≤ j := (nd_iff j n h1).1 (Nat.div_eq_of_lt h)
theorem lt_nd {n j : Nat} (h1 : 1 ≤ j) (h : j < nd n) : n / 10 ^ j ≠ 0 := fun e => by
  have := (nd_iff j n h1).1 e
  omega

/-- The text of a natural with d digits behind the dot. -/
def natText (n d : Nat) : Bs := low (nd (n / 10 ^ d)) (n / 10 ^ d) ++ (if d = 0 then [] else 46 :: low d n)

/-- The text of a number. -/
def fixText (n : Int) (d : Nat) : Bs := (if n < 0 then [45] else []) ++ natText n.natAbs d

theorem natText_length_le (n d : Nat) (hn : n ≤ 1000000000000000) (hd : d ≤ 6) : (natText n d).length ≤ 17 := by
  unfold natText
  rw [List.length_append, low_length]
  have h1 : nd (n / 10 ^ d) ≤ 16 - d := by
    apply nd_le (by omega)
    apply Nat.div_lt_of_lt_mul
    rw [← Nat.pow_add]
    have : d + (16 - d) = 16 := by omega
    rw [this]
    omega
  split
  · simp; omega
  · rw [List.length_cons, low_length]; omega
theorem fixText_length_le (n : Int) (d : Nat) (h1 : -1000000000000000 ≤ n) (h2 : n ≤ 1000000000000000) (hd : d ≤ 6) : (fixText n d).length ≤ 18 := by
  unfold fixText
  rw [List.length_append]
  have := natText_length_le n.natAbs d (by omega) hd
  split <;> simp <;> omega

/-! ## the value of digits -/
def val (l : Bs) : Nat := l.foldl (fun v c => 10 * v + (c.toNat - 48)) 0
def isDig (c : UInt8) : Bool := decide (48 ≤ c.toNat ∧ c.toNat ≤ 57)

theorem val_nil : val [] = 0 := rfl
theorem val_snoc (l : Bs) (c : UInt8) : val (l ++ [c]) = 10 * val l + (c.toNat - 48) := by
  unfold val; rw [List.foldl_append]; rfl
theorem foldl_val (l : Bs) : ∀ v, l.foldl (fun v c => 10 * v + (c.toNat - 48)) v = v * 10 ^ l.length + val l := by
  induction l with
  | nil => intro v; simp [val]
  | cons c l ih =>
    intro v
    unfold val
    rw [List.foldl_cons, List.foldl_cons, ih, ih (10 * 0 + (c.toNat - 48)), List.length_cons, Nat.pow_succ]
    have e : (10 * v + (c.toNat - 48)) * 10 ^ l.length = v * (10 ^ l.length * 10) + (10 * 0 + (c.toNat - 48)) * 10 ^ l.length := by
      rw [Nat.add_mul]
      have e2 : 10 * v * 10 ^ l.length = v * (10 ^ l.length * 10) := by
        rw [Nat.mul_comm 10 v, Nat.mul_assoc, Nat.mul_comm 10]
      rw [e2]
      simp
    rw [e]; omega
theorem val_append (a b : Bs) : val (a ++ b) = val a * 10 ^ b.length + val b := by
  show (a ++ b).foldl _ 0 = _
  rw [List.foldl_append, foldl_val b]; rfl
theorem val_cons (c : UInt8) (l : Bs) : val (c :: l) = (c.toNat - 48) * 10 ^ l.length + val l := by
  have := val_append [c] l
  simpa [val] using this

theorem val_low (k n : Nat) : val (low k n) = n % 10 ^ k := by
  induction k with
  | zero => simp [low, val, Nat.mod_one]
  | succ k ih =>
    rw [low_succ, val_cons, ih, low_length, dig_toNat, Nat.pow_succ, Nat.mod_mul]
    have : 48 + n / 10 ^ k % 10 - 48 = n / 10 ^ k % 10 := by omega
    rw [this, Nat.mul_comm]; omega

theorem val_lt (l : Bs) (h : ∀ c ∈ l, isDig c = true) : val l < 10 ^ l.length := by
  induction l with
  | nil => simp [val]
  | cons c l ih =>
    rw [val_cons, List.length_cons, Nat.pow_succ]
    have h1 := ih fun x hx => h x (List.mem_cons_of_mem _ hx)
    have h2 := h c (List.mem_cons_self ..)
    simp only [isDig, decide_eq_true_eq] at h2
    have h3 : (c.toNat - 48) * 10 ^ l.length ≤ 9 * 10 ^ l.length := Nat.mul_le_mul_right _ (by omega)
    omega

theorem isDig_dig (n : Nat) : isDig (dig n) = true := by
  simp only [isDig, decide_eq_true_eq, dig_toNat]; omega
theorem low_dig (k n : Nat) : ∀ c ∈ low k n, isDig c = true := by
  induction k with
  | zero => intro c h; cases h
  | succ k ih =>
    intro c h
    rw [low_succ] at h
    rcases List.mem_cons.1 h with e | e
    · rw [e]; exact isDig_dig _
    · exact ih c e

theorem dig_of {c : UInt8} (h : isDig c = true) {n : Nat} (e : n % 10 = c.toNat - 48) : dig n = c := by
  simp only [isDig, decide_eq_true_eq] at h
  apply UInt8.toNat_inj.1
  rw [dig_toNat]; omega

/-- The digits are those of their value. -/
theorem low_val (l : Bs) (h : ∀ c ∈ l, isDig c = true) (v : Nat) (hv : v % 10 ^ l.length = val l) : low l.length v = l := by
  induction l generalizing v with
  | nil => rfl
  | cons c l ih =>
    have hl := fun x hx => h x (List.mem_cons_of_mem c hx)
    have hc := h c (List.mem_cons_self ..)
    have hlt := val_lt l hl
    rw [val_cons, List.length_cons, Nat.pow_succ, Nat.mod_mul] at hv
    have hp := pow_pos' l.length
    have e1 : v / 10 ^ l.length % 10 = c.toNat - 48 ∧ v % 10 ^ l.length = val l := by
      have hm := Nat.mod_lt v hp
      have hcd := hc
      simp only [isDig, decide_eq_true_eq] at hcd
      have e2 : (v % 10 ^ l.length + 10 ^ l.length * (v / 10 ^ l.length % 10)) % 10 ^ l.length = ((c.toNat - 48) * 10 ^ l.length + val l) % 10 ^ l.length := by rw [hv]
      rw [Nat.add_mul_mod_self_left, Nat.mod_mod, Nat.mul_comm (c.toNat - 48), Nat.mul_add_mod, Nat.mod_eq_of_lt hlt] at e2
      refine ⟨?_, e2⟩
      rw [e2] at hv
      have e3 : 10 ^ l.length * (v / 10 ^ l.length % 10) = 10 ^ l.length * (c.toNat - 48) := by
        rw [Nat.mul_comm (c.toNat - 48)] at hv; omega
      exact Nat.eq_of_mul_eq_mul_left hp e3
    rw [List.length_cons, low_succ, ih hl v e1.2, dig_of hc e1.1]

theorem low_val' (l : Bs) (h : ∀ c ∈ l, isDig c = true) : low l.length (val l) = l := low_val l h _ (Nat.mod_eq_of_lt (val_lt l h))
theorem dig_ne_dot {c : UInt8} (h : isDig c = true) : c ≠ 46 ∧ c ≠ 45 := by
  simp only [isDig, decide_eq_true_eq] at h
  constructor <;> (intro e; subst e; revert h; decide)

/-- What is read: the digits, and the sign at the head. -/
def readN (l : Bs) : Nat := val (l.filter isDig)
def readZ (l : Bs) : Int := if l.head? = some 45 then -(readN l : Int) else readN l
def from_ (l : Bs) : Nat := if l.head? = some 45 then 1 else 0

theorem filter_digs {l : Bs} (h : ∀ c ∈ l, isDig c = true) : l.filter isDig = l := List.filter_eq_self.2 h

theorem nd_lt (n : Nat) : n < 10 ^ nd n := by
  have h := (nd_iff (nd n) n (nd_pos n)).2 (Nat.le_refl _)
  have := Nat.div_eq_zero_iff.1 h
  have hp := pow_pos' (nd n)
  omega

theorem val_nd (n : Nat) : val (low (nd n) n) = n := by rw [val_low, Nat.mod_eq_of_lt (nd_lt n)]

def part (d n : Nat) : Bs := if d = 0 then [] else 46 :: low d n
theorem natText_part (n d : Nat) : natText n d = low (nd (n / 10 ^ d)) (n / 10 ^ d) ++ part d n := rfl

theorem readN_natText (n d : Nat) : readN (natText n d) = n := by
  unfold readN natText
  rw [List.filter_append, filter_digs (low_dig _ _)]
  split
  · rename_i h
    subst h
    simp [val_nd]
  · rw [List.filter_cons_of_neg (by decide), filter_digs (low_dig _ _), val_append, val_nd, val_low, low_length, Nat.mul_comm]
    exact Nat.div_add_mod n (10 ^ d)

theorem natText_head (n d : Nat) : ∃ c t, natText n d = c :: t ∧ isDig c = true := by
  unfold natText
  obtain ⟨j, hj⟩ : ∃ j, nd (n / 10 ^ d) = j + 1 := ⟨nd (n / 10 ^ d) - 1, by have := nd_pos (n / 10 ^ d); omega⟩
  rw [hj, low_succ]
  exact ⟨_, _, rfl, isDig_dig _⟩

theorem fixText_from (n : Int) (d : Nat) : from_ (fixText n d) = (if n < 0 then 1 else 0) ∧ (fixText n d).drop (if n < 0 then 1 else 0) = natText n.natAbs d := by
  unfold from_ fixText
  obtain ⟨c, t, e, hc⟩ := natText_head n.natAbs d
  have := (dig_ne_dot hc).2
  split <;> simp [e, this]

theorem readZ_fixText (n : Int) (d : Nat) : readZ (fixText n d) = n := by
  unfold readZ fixText
  obtain ⟨c, t, e, hc⟩ := natText_head n.natAbs d
  have h45 := (dig_ne_dot hc).2
  have hr := readN_natText n.natAbs d
  by_cases hn : n < 0
  · rw [if_pos hn]
    have : readN ([45] ++ natText n.natAbs d) = readN (natText n.natAbs d) := by
      unfold readN
      rw [List.filter_append]
      rfl
    rw [this, hr]
    simp
    omega
  · rw [if_neg hn, List.nil_append, hr, e]
    simp [h45]
    omega

/-- s has a number whose text it is. -/
def Ok (l : Bs) (d : Nat) : Prop := ∃ n : Int, -1000000000000000 ≤ n ∧ n ≤ 1000000000000000 ∧ fixText n d = l
theorem ok_iff (l : Bs) (d : Nat) : Ok l d ↔ -1000000000000000 ≤ readZ l ∧ readZ l ≤ 1000000000000000 ∧ fixText (readZ l) d = l := by
  constructor
  · rintro ⟨n, h1, h2, rfl⟩
    rw [readZ_fixText]
    exact ⟨h1, h2, rfl⟩
  · rintro ⟨h1, h2, h3⟩
    exact ⟨_, h1, h2, h3⟩

/-- Of a text: its sign taken, digits, and behind a dot d more. -/
theorem ok_shape {l : Bs} {d : Nat} (h : Ok l d) : ∃ n : Nat, l.drop (from_ l) = natText n d ∧ n ≤ 1000000000000000 ∧ (from_ l = 1 → n ≠ 0) := by
  obtain ⟨n, h1, h2, rfl⟩ := h
  obtain ⟨e1, e2⟩ := fixText_from n d
  refine ⟨n.natAbs, by rw [e1, e2], by omega, ?_⟩
  rw [e1]
  split
  · intro _; omega
  · intro h; cases h

/-- What is behind the sign, up to i. -/
def seen (l : Bs) (i : Nat) : Bs := (l.take i).drop (from_ l)
theorem seen_all (l : Bs) : seen l l.length = l.drop (from_ l) := by unfold seen; rw [List.take_length]
theorem seen_from (l : Bs) : seen l (from_ l) = [] := by unfold seen; rw [List.drop_take, Nat.sub_self, List.take_zero]
theorem seen_succ {l : Bs} {i : Nat} (h : i < l.length) (hf : from_ l ≤ i) : seen l (i + 1) = seen l i ++ [l[i]] := by
  unfold seen
  rw [List.take_succ_eq_append_getElem h, List.drop_append_of_le_length]
  rw [List.length_take]; omega
theorem seen_mem {l : Bs} {i : Nat} (h : i < l.length) (hf : from_ l ≤ i) : l[i] ∈ l.drop (from_ l) := by
  have : l[i] = (l.drop (from_ l))[i - from_ l]'(by rw [List.length_drop]; omega) := by
    rw [List.getElem_drop]; congr 1; omega
  rw [this]; exact List.getElem_mem _
theorem seen_prefix (l : Bs) (i : Nat) : ∃ t, l.drop (from_ l) = seen l i ++ t := by
  refine ⟨(l.drop i).drop (from_ l - i), ?_⟩
  unfold seen
  generalize from_ l = f
  conv => lhs; rw [← List.take_append_drop i l]
  rw [List.drop_append]
  by_cases h : i ≤ l.length
  · rw [List.length_take, Nat.min_eq_left h]
  · have e : l.drop i = [] := List.drop_eq_nil_of_le (by omega)
    rw [e]; simp
theorem seen_length {l : Bs} {i : Nat} (h : i ≤ l.length) : (seen l i).length = i - from_ l := by
  unfold seen; rw [List.length_drop, List.length_take]; omega

/-- The state of the reading: no dot yet, or one. -/
def St (l : Bs) (i dot n : Nat) : Prop :=
  (dot = l.length ∧ (∀ c ∈ seen l i, isDig c = true) ∧ n = val (seen l i)) ∨
  (dot < l.length ∧ ∃ a b, seen l i = a ++ 46 :: b ∧ (∀ c ∈ a, isDig c = true) ∧ (∀ c ∈ b, isDig c = true) ∧ dot = from_ l + a.length ∧ n = val (a ++ b))

theorem St.start (l : Bs) : St l (from_ l) l.length 0 := Or.inl ⟨rfl, by rw [seen_from]; exact (fun c h => (nomatch h)), by rw [seen_from]; rfl⟩

theorem St.dot {l : Bs} {i n : Nat} (h : St l i l.length n) (hi : i < l.length) (hf : from_ l ≤ i) (hc : l[i] = 46) : St l (i + 1) i n := by
  rcases h with ⟨_, h1, h2⟩ | ⟨h, _⟩
  · refine Or.inr ⟨hi, seen l i, [], by rw [seen_succ hi hf, hc], h1, (fun c hc => (nomatch hc)), ?_, by rw [List.append_nil]; exact h2⟩
    rw [seen_length (by omega)]; omega
  · omega

theorem St.digit {l : Bs} {i dot n : Nat} (h : St l i dot n) (hi : i < l.length) (hf : from_ l ≤ i) (hc : isDig l[i] = true) : St l (i + 1) dot (10 * n + (l[i].toNat - 48)) := by
  have dd : ∀ {b : Bs}, (∀ c ∈ b, isDig c = true) → ∀ c ∈ b ++ [l[i]], isDig c = true := by
    intro b hb c h
    rcases List.mem_append.1 h with h | h
    · exact hb c h
    · rw [List.mem_singleton.1 h]; exact hc
  rcases h with ⟨h0, h1, h2⟩ | ⟨h0, a, b, h1, h2, h3, h4, h5⟩
  · refine Or.inl ⟨h0, ?_, ?_⟩
    · rw [seen_succ hi hf]; exact dd h1
    · rw [seen_succ hi hf, val_snoc, h2]
  · refine Or.inr ⟨h0, a, b ++ [l[i]], by rw [seen_succ hi hf, h1]; simp, h2, dd h3, h4, ?_⟩
    rw [← List.append_assoc, val_snoc, h5]

theorem St.small {l : Bs} {i dot n : Nat} (h : St l i dot n) (hi : i ≤ l.length) : n < 10 ^ i := by
  have up : ∀ k, k ≤ i → 10 ^ k ≤ 10 ^ i := fun k hk => Nat.pow_le_pow_right (by omega) hk
  have hs := seen_length hi
  rcases h with ⟨_, h1, h2⟩ | ⟨h0, a, b, h1, h2, h3, h4, h5⟩
  · have := val_lt _ h1
    have := up (seen l i).length (by omega)
    omega
  · have hab : ∀ c ∈ a ++ b, isDig c = true := by
      intro c h
      rcases List.mem_append.1 h with h | h
      · exact h2 c h
      · exact h3 c h
    have := val_lt _ hab
    rw [h1] at hs
    simp at hs
    have := up (a ++ b).length (by simp; omega)
    omega

theorem split_dot {a b a' b' : Bs} (ha : ∀ c ∈ a, isDig c = true) (ha' : ∀ c ∈ a', isDig c = true) (h : a ++ 46 :: b = a' ++ 46 :: b') : a = a' ∧ b = b' := by
  induction a generalizing a' with
  | nil =>
    cases a' with
    | nil => simp at h; exact ⟨rfl, h⟩
    | cons c t =>
      simp at h
      exact absurd h.1.symm (dig_ne_dot (ha' c (List.mem_cons_self ..))).1
  | cons c t ih =>
    cases a' with
    | nil =>
      simp at h
      exact absurd h.1 (dig_ne_dot (ha c (List.mem_cons_self ..))).1
    | cons c' t' =>
      simp at h
      obtain ⟨rfl, h⟩ := h
      obtain ⟨e1, e2⟩ := ih (fun x hx => ha x (List.mem_cons_of_mem _ hx)) (fun x hx => ha' x (List.mem_cons_of_mem _ hx)) h
      exact ⟨by rw [e1], e2⟩
theorem no_dot {a : Bs} (ha : ∀ c ∈ a, isDig c = true) : (46 : UInt8) ∉ a := fun h => (dig_ne_dot (ha _ h)).1 rfl

theorem bad_mid {l : Bs} {d i dot n : Nat} (h : St l i dot n) (hi : i < l.length) (hf : from_ l ≤ i) (h1 : isDig l[i] = false) (h2 : ¬ (l[i] = 46 ∧ dot = l.length)) : ¬ Ok l d := by
  intro hk
  obtain ⟨m, e, _, _⟩ := ok_shape hk
  rw [natText_part] at e
  have hm := seen_mem hi hf
  have hmem : l[i] ∈ natText m d := by rw [natText_part, ← e]; exact hm
  -- it is the dot
  have h46 : l[i] = 46 := by
    rw [natText_part] at hmem
    rcases List.mem_append.1 hmem with h | h
    · rw [low_dig _ _ _ h] at h1; cases h1
    · unfold part at h
      split at h
      · cases h
      · rcases List.mem_cons.1 h with h | h
        · exact h
        · rw [low_dig _ _ _ h] at h1; cases h1
  rcases h with ⟨h0, _⟩ | ⟨h0, a, b, k1, k2, k3, k4, k5⟩
  · exact h2 ⟨h46, h0⟩
  · obtain ⟨t, ht⟩ := seen_prefix l (i + 1)
    rw [seen_succ hi hf, k1, h46] at ht
    rw [ht] at e
    simp only [List.append_assoc, List.cons_append] at e
    unfold part at e
    split at e
    · have : (46 : UInt8) ∈ low (nd (m / 10 ^ d)) (m / 10 ^ d) ++ [] := by rw [← e]; simp
      rw [List.append_nil] at this
      exact no_dot (low_dig _ _) this
    · have e2 := (split_dot k2 (low_dig _ _) e).2
      have : (46 : UInt8) ∈ low d m := by rw [← e2]; simp
      exact no_dot (low_dig _ _) this

/-- The document's conditions on what was read. -/
def Good (l : Bs) (d dot n : Nat) : Prop :=
  1 ≤ dot - from_ l ∧ ¬ (1 < dot - from_ l ∧ l[from_ l]? = some 48) ∧ (if dot = l.length then 0 else l.length - dot - 1) = d ∧ ¬ (dot < l.length ∧ d = 0) ∧ n ≤ 1000000000000000 ∧ ¬ (from_ l = 1 ∧ n = 0)

theorem nd_of_digits {w : Bs} (hw : ∀ c ∈ w, isDig c = true) (h1 : 1 ≤ w.length) (h0 : ¬ (1 < w.length ∧ w[0]? = some 48)) : nd (val w) = w.length := by
  have hle : nd (val w) ≤ w.length := nd_le h1 (val_lt w hw)
  by_cases h : nd (val w) = w.length
  · exact h
  · exfalso
    cases w with
    | nil => simp at h1
    | cons c t =>
      have hp := nd_pos (val (c :: t))
      simp only [List.length_cons] at hle h h0 hp
      have ht : 1 ≤ t.length := by omega
      have hv := (nd_iff t.length (val (c :: t)) ht).2 (by omega)
      have hp := pow_pos' t.length
      rw [val_cons, Nat.mul_comm, Nat.mul_add_div hp, Nat.div_eq_of_lt (val_lt t fun x hx => hw x (List.mem_cons_of_mem _ hx))] at hv
      have hc := hw c (List.mem_cons_self ..)
      simp only [isDig, decide_eq_true_eq] at hc
      apply h0
      refine ⟨by omega, ?_⟩
      simp
      apply UInt8.toNat_inj.1
      have : (48 : UInt8).toNat = 48 := rfl
      omega

theorem nd_shape {w : Bs} {m : Nat} (e : w = low (nd m) m) : 1 ≤ w.length ∧ ¬ (1 < w.length ∧ w[0]? = some 48) := by
  subst e
  rw [low_length]
  have hp := nd_pos m
  refine ⟨hp, ?_⟩
  rintro ⟨h1, h2⟩
  obtain ⟨j, hj⟩ : ∃ j, nd m = j + 1 := ⟨nd m - 1, by omega⟩
  rw [hj, low_succ] at h2
  simp at h2
  have h3 := lt_nd (n := m) (j := j) (by omega) (by omega)
  have h4 := (nd_iff (j + 1) m (by omega)).2 (by omega)
  rw [← div_pow_succ] at h4
  have h5 : (dig (m / 10 ^ j)).toNat = 48 := by rw [h2]; rfl
  rw [dig_toNat] at h5
  omega

theorem from_le (l : Bs) : from_ l ≤ 1 := by unfold from_; split <;> omega
theorem from_len {l : Bs} : from_ l ≤ l.length := by
  unfold from_
  split
  · cases l with
    | nil => rename_i h; simp at h
    | cons c t => simp
  · omega

theorem at_from (l : Bs) : l[from_ l]? = (l.drop (from_ l))[0]? := by rw [List.getElem?_drop]; simp

theorem split_sign (l : Bs) : l = (if from_ l = 1 then [45] else []) ++ l.drop (from_ l) := by
  unfold from_
  split
  · rename_i h
    cases l with
    | nil => simp at h
    | cons c t => simp at h; subst h; simp
  · simp

theorem text_of_nat {l : Bs} {d n : Nat} (h : l.drop (from_ l) = natText n d) (hn : n ≤ 1000000000000000) (h0 : ¬ (from_ l = 1 ∧ n = 0)) : Ok l d ∧ readZ l = (if from_ l = 1 then -(n : Int) else n) := by
  have e := split_sign l
  rw [h] at e
  have hz : fixText (if from_ l = 1 then -(n : Int) else n) d = l := by
    conv => rhs; rw [e]
    unfold fixText
    by_cases h1 : from_ l = 1
    · rw [if_pos h1, if_pos h1, if_pos (by omega)]
      simp
    · rw [if_neg h1, if_neg h1, if_neg (by omega)]
      simp
  refine ⟨⟨_, ?_, ?_, hz⟩, ?_⟩
  · split <;> omega
  · split <;> omega
  · conv => lhs; rw [← hz]
    rw [readZ_fixText]

theorem good_end {l : Bs} {d dot n : Nat} (h : St l l.length dot n) (g : Good l d dot n) : Ok l d ∧ readZ l = (if from_ l = 1 then -(n : Int) else n) := by
  obtain ⟨g1, g2, g3, g4, g5, g6⟩ := g
  refine text_of_nat ?_ g5 g6
  rw [at_from] at g2
  rcases h with ⟨h0, h1, h2⟩ | ⟨h0, a, b, k1, k2, k3, k4, k5⟩
  · rw [if_pos h0] at g3
    subst g3
    rw [seen_all] at h1 h2
    have hl : (l.drop (from_ l)).length = l.length - from_ l := by simp
    rw [natText_part]
    simp only [part, if_true, List.append_nil, Nat.pow_zero, Nat.div_one]
    rw [h2, nd_of_digits h1 (by omega) (by rw [hl]; rw [h0] at g2; exact g2), low_val' _ h1]
  · rw [if_neg (by omega)] at g3
    rw [seen_all] at k1
    have hl : (l.drop (from_ l)).length = l.length - from_ l := by simp
    rw [k1] at hl g2
    simp at hl
    have hb : b.length = d := by omega
    have hd : d ≠ 0 := by omega
    rw [natText_part, k1]
    unfold part
    rw [if_neg hd]
    have hv : val (a ++ b) / 10 ^ d = val a := by
      rw [val_append, hb, Nat.mul_comm, Nat.mul_add_div (pow_pos' d), Nat.div_eq_of_lt (by rw [← hb]; exact val_lt b k3)]; omega
    have hm : val (a ++ b) % 10 ^ d = val b := by
      rw [val_append, hb, Nat.mul_comm, Nat.mul_add_mod, Nat.mod_eq_of_lt (by rw [← hb]; exact val_lt b k3)]
    rw [k5, hv]
    have ha : 1 ≤ a.length := by omega
    rw [nd_of_digits k2 ha (by
      rintro ⟨e1, e2⟩
      exact g2 ⟨by omega, by rw [List.getElem?_append_left (by omega)]; exact e2⟩), low_val' _ k2]
    rw [← hb] at hm ⊢
    rw [low_val b k3 _ hm]

theorem bad_end {l : Bs} {d dot n : Nat} (h : St l l.length dot n) (g : ¬ Good l d dot n) : ¬ Ok l d := by
  intro hk
  apply g
  obtain ⟨m, e, hm, hm0⟩ := ok_shape hk
  have hl : (l.drop (from_ l)).length = l.length - from_ l := by simp
  have hfl := from_len (l := l)
  have hval : ∀ w p : Bs, w = low (nd (m / 10 ^ d)) (m / 10 ^ d) → p = low d m → val (w ++ p) = m := by
    rintro _ _ rfl rfl
    rw [val_append, val_nd, val_low, low_length, Nat.mul_comm]
    exact Nat.div_add_mod m (10 ^ d)
  rw [natText_part] at e
  unfold Good
  rw [at_from]
  rcases h with ⟨h0, h1, h2⟩ | ⟨h0, a, b, k1, k2, k3, k4, k5⟩
  · rw [seen_all] at h1 h2
    unfold part at e
    by_cases hd : d = 0
    · subst hd
      rw [if_pos rfl, List.append_nil] at e
      obtain ⟨s1, s2⟩ := nd_shape e
      rw [hl] at s1 s2
      have hn : n = m := by
        rw [h2, ← hval _ [] e rfl, List.append_nil]
      rw [h0, if_pos rfl, hn]
      exact ⟨s1, s2, rfl, by omega, hm, fun x => hm0 x.1 x.2⟩
    · rw [if_neg hd] at e
      exfalso
      have : (46 : UInt8) ∈ l.drop (from_ l) := by rw [e]; simp
      exact no_dot h1 this
  · rw [seen_all] at k1
    unfold part at e
    by_cases hd : d = 0
    · rw [if_pos hd, List.append_nil] at e
      exfalso
      have : (46 : UInt8) ∈ l.drop (from_ l) := by rw [k1]; simp
      rw [e] at this
      exact no_dot (low_dig _ _) this
    · rw [if_neg hd, k1] at e
      obtain ⟨ea, eb⟩ := split_dot k2 (low_dig _ _) e
      obtain ⟨s1, s2⟩ := nd_shape ea
      have hbl : b.length = d := by rw [eb, low_length]
      rw [k1] at hl
      simp at hl
      rw [if_neg (by omega), k1]
      have hn : n = m := by rw [k5, hval a b ea eb]
      rw [hn]
      refine ⟨by omega, ?_, by omega, by omega, hm, fun x => hm0 x.1 x.2⟩
      rintro ⟨e1, e2⟩
      rw [List.getElem?_append_left (by omega)] at e2
      exact s2 ⟨by omega, e2⟩
end Go.Proofs.Ytecdcfmbhphagaa.FixMath
