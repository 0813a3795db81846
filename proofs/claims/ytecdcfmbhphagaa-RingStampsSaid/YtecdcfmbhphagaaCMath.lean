/-
  PLAIN: the kinds: what may stand under what, what refers to what, groups, how many, levels. No walk.
-/
namespace Go.Proofs.Ytecdcfmbhphagaa
set_option maxRecDepth 100000
set_option linter.unusedVariables false

def kdB (k : Nat) : Bool := decide (1 ≤ k) && decide (k ≤ 9)
def parM (k : Nat) : Nat := match k with | 1 => 1 | 2 => 2 | 3 => 4 | 4 => 8 | 5 => 6 | 6 => 32 | 7 => 32 | 8 => 32 | 9 => 2 | _ => 0
def refM (k : Nat) : Nat := match k with | 6 => 16 | 7 => 320 | 8 => 16 | _ => 0
def grp (k : Nat) : Nat := match k with | 1 => 1 | 2 => 2 | 3 => 3 | 4 => 4 | 5 => 5 | 6 => 6 | 7 => 6 | 8 => 6 | 9 => 9 | _ => 0
def rmost (k : Nat) : Nat := match k with | 1 => 4 | 2 => 8 | 3 => 8 | 4 => 16 | 5 => 1 | 6 => 16 | 9 => 8 | _ => 0
def most (k : Nat) : Nat := rmost (grp k)
def hasBit (s k : Nat) : Bool := decide (k < 16) && decide (s / 2 ^ k % 2 = 1)
def underB (k p : Nat) : Bool := match k with | 1 => p == 0 | 2 => p == 1 | 3 => p == 2 | 4 => p == 3 | 5 => p == 1 || p == 2 | 6 => p == 5 | 7 => p == 5 | 8 => p == 5 | 9 => p == 1 | _ => false
def refersTo (k p : Nat) : Bool := match k with | 6 => p == 4 | 7 => p == 6 || p == 8 | 8 => p == 4 | _ => false
def lowL (k : Nat) : Nat := match k with | 1 => 1 | 2 => 2 | 3 => 3 | 4 => 4 | 5 => 2 | 6 => 3 | 7 => 3 | 8 => 3 | 9 => 2 | _ => 0
def highL (k : Nat) : Nat := match k with | 1 => 1 | 2 => 2 | 3 => 3 | 4 => 4 | 5 => 3 | 6 => 4 | 7 => 4 | 8 => 4 | 9 => 2 | _ => 0
theorem kdB_t {k : Nat} (h1 : 1 ≤ k) (h2 : k ≤ 9) : kdB k = true := by simp [kdB, h1, h2]
theorem kdB_iff {k : Nat} : kdB k = true ↔ 1 ≤ k ∧ k ≤ 9 := by simp [kdB]
theorem kdB_f {k : Nat} : kdB k = false ↔ k = 0 ∨ 9 < k := by
  rw [← Bool.not_eq_true, kdB_iff]; omega
theorem under_kd {k p : Nat} (h : underB k p = true) : kdB k = true := by
  rw [kdB_iff]
  unfold underB at h
  split at h <;> first | omega | cases h
theorem has_par {k : Nat} (p : Nat) (hk : k ≤ 9) : hasBit (parM k) p = underB k p := by
  by_cases hp : p < 16
  · exact (show ∀ k, k < 10 → ∀ p, p < 16 → hasBit (parM k) p = underB k p by decide +kernel) k (by omega) p hp
  · have h1 : hasBit (parM k) p = false := by simp [hasBit, hp]
    rw [h1]
    symm
    unfold underB
    split <;> simp <;> omega
theorem has_ref {k : Nat} (p : Nat) (hk : k ≤ 9) : hasBit (refM k) p = refersTo k p := by
  by_cases hp : p < 16
  · exact (show ∀ k, k < 10 → ∀ p, p < 16 → hasBit (refM k) p = refersTo k p by decide +kernel) k (by omega) p hp
  · have h1 : hasBit (refM k) p = false := by simp [hasBit, hp]
    rw [h1]
    symm
    unfold refersTo
    split <;> simp <;> omega
theorem hasB_zero (p : Nat) : hasBit 0 p = false := by simp [hasBit]
theorem parM_le (k : Nat) : parM k ≤ 65535 := by unfold parM; split <;> omega
theorem refM_le (k : Nat) : refM k ≤ 65535 := by unfold refM; split <;> omega
theorem grp_le (k : Nat) : grp k ≤ 9 := by unfold grp; split <;> omega
theorem rmost_le (k : Nat) : rmost k ≤ 16 := by unfold rmost; split <;> omega
theorem most_le (k : Nat) : most k ≤ 16 := rmost_le _
theorem none_of {k : Nat} (h : kdB k = false) : parM k = 0 ∧ refM k = 0 ∧ grp k = 0 ∧ rmost k = 0 ∧ most k = 0 ∧ lowL k = 0 ∧ highL k = 0 := by
  rw [kdB_f] at h
  have hg : grp k = 0 := by unfold grp; split <;> first | rfl | omega
  have hm : most k = 0 := by unfold most; rw [hg]; rfl
  refine ⟨?_, ?_, hg, ?_, hm, ?_, ?_⟩
  · unfold parM; split <;> first | rfl | omega
  · unfold refM; split <;> first | rfl | omega
  · unfold rmost; split <;> first | rfl | omega
  · unfold lowL; split <;> first | rfl | omega
  · unfold highL; split <;> first | rfl | omega
theorem under_none {k : Nat} (h : kdB k = false) (p : Nat) : underB k p = false := by
  cases e : underB k p with
  | false => rfl
  | true => rw [under_kd e] at h; cases h
theorem refers_none {k : Nat} (h : kdB k = false) (p : Nat) : refersTo k p = false := by
  rw [kdB_f] at h
  unfold refersTo; split <;> first | rfl | omega
theorem grp_kd {k : Nat} : kdB (grp k) = kdB k := by
  by_cases h : k < 10
  · exact (show ∀ k, k < 10 → kdB (grp k) = kdB k by decide +kernel) k h
  · have e : kdB k = false := by rw [kdB_f]; omega
    rw [e, (none_of e).2.2.1]; rfl
theorem grp_pos {k : Nat} (h : kdB k = true) : 1 ≤ grp k ∧ grp k ≤ 9 := by
  have := @grp_kd k
  rw [h, kdB_iff] at this
  exact this
theorem most_pos {k : Nat} (h : kdB k = true) : 1 ≤ most k := by
  rw [kdB_iff] at h
  exact (show ∀ k, k < 10 → 1 ≤ k → 1 ≤ most k by decide +kernel) k (by omega) h.1
/-- The kinds, one behind the other. -/
def kinds9 : List Nat := [1, 2, 3, 4, 5, 6, 7, 8, 9]
def parentsL (k : Nat) : List Nat := kinds9.filter fun p => underB k p
def kidsL (k : Nat) : List Nat := kinds9.filter fun c => kdB k && underB c k
/-- The kinds below n that p holds for. -/
def fil (p : Nat → Bool) (n : Nat) : List Nat := (List.range n).filter fun k => kdB k && p k
theorem fil_succ (p : Nat → Bool) (n : Nat) : fil p (n + 1) = fil p n ++ if kdB n && p n then [n] else [] := by
  unfold fil
  rw [List.range_succ, List.filter_append]
  cases h : kdB n && p n <;> simp [h]
theorem fil_len (p : Nat → Bool) (n : Nat) : (fil p n).length ≤ n := by
  unfold fil
  have := List.length_filter_le (fun k => kdB k && p k) (List.range n)
  simpa using this
theorem fil_mem {p : Nat → Bool} {n k : Nat} : k ∈ fil p n ↔ k < n ∧ kdB k = true ∧ p k = true := by
  unfold fil; simp
theorem fil_ten (p : Nat → Bool) : fil p 10 = kinds9.filter p := by
  unfold fil kinds9
  show List.filter _ [0, 1, 2, 3, 4, 5, 6, 7, 8, 9] = _
  simp [List.filter_cons, kdB]
theorem fil_parents (k : Nat) : fil (fun p => underB k p) 10 = parentsL k := fil_ten _
theorem fil_kids (k : Nat) : fil (fun c => kdB k && underB c k) 10 = kidsL k := fil_ten _
theorem mem_parents {k p : Nat} : p ∈ parentsL k ↔ (1 ≤ p ∧ p ≤ 9) ∧ underB k p = true := by
  rw [← fil_parents, fil_mem, kdB_iff]
  exact ⟨fun h => h.2, fun h => ⟨by omega, h⟩⟩
theorem mem_kids {k c : Nat} : c ∈ kidsL k ↔ kdB k = true ∧ underB c k = true := by
  rw [← fil_kids, fil_mem, kdB_iff]
  constructor
  · rintro ⟨_, _, h⟩
    simpa using h
  · rintro ⟨h1, h2⟩
    have := under_kd h2
    rw [kdB_iff] at this
    exact ⟨by omega, this, by simp [h1, h2]⟩
end Go.Proofs.Ytecdcfmbhphagaa
