/-
  PLAIN: frames joined and split.
-/
import Derived.Test.YtkgjgbenfpkekaaYMath
import Derived.Test.YtkgjgbenfpkekaaYReadsM
namespace Go.Proofs.Ytkgjgbenfpkekaa.JX
open YX (numB rdU addW told rest)
set_option maxRecDepth 100000
set_option linter.unusedVariables false
set_option linter.unusedSimpArgs false

abbrev Bs := List UInt8
def okF (l : List Bs) : Bool := l.all (fun f => decide (1 ≤ f.length) && decide (f.length ≤ 4096))
def joinB (l : List Bs) : Bs := l.flatMap (fun f => numB f.length ++ f)
def capJ (b : Bs) : Option Bs := if 65536 < b.length then none else some b
def joinF (l : List Bs) : Option Bs := if okF l then capJ (joinB l) else none
theorem addW_cap (b : Bs) : addW (some []) b = capJ b := by simp [addW, capJ]
theorem okF_next {l : List Bs} {k : Nat} (h : k < l.length) : okF (l.take (k + 1)) = (okF (l.take k) && (decide (1 ≤ l[k].length) && decide (l[k].length ≤ 4096))) := by
  unfold okF
  rw [List.take_succ_eq_append_getElem h, List.all_append]; simp
theorem joinB_next {l : List Bs} {k : Nat} (h : k < l.length) : joinB (l.take (k + 1)) = joinB (l.take k) ++ (numB l[k].length ++ l[k]) := by
  unfold joinB
  rw [List.take_succ_eq_append_getElem h, List.flatMap_append]; simp
theorem joinF_no {l : List Bs} {k : Nat} (h : k < l.length) (hb : l[k].length < 1 ∨ 4096 < l[k].length) : joinF l = none := by
  unfold joinF
  rw [if_neg]
  intro q
  have := List.all_eq_true.1 q _ (List.getElem_mem h)
  simp only [Bool.and_eq_true, decide_eq_true_eq] at this
  omega
theorem joinF_ok {l : List Bs} (h : okF l = true) : joinF l = capJ (joinB l) := by unfold joinF; rw [if_pos h]
theorem okF_at {l : List Bs} (h : okF l = true) {f : Bs} (hf : f ∈ l) : 1 ≤ f.length ∧ f.length ≤ 4096 := by
  have := List.all_eq_true.1 h f hf
  simpa using this
theorem joinB_len : ∀ {l : List Bs}, okF l = true → (joinB l).length ≤ l.length * 4106
  | [], _ => by simp [joinB]
  | f :: l, h => by
    have h1 := okF_at h (List.mem_cons_self ..)
    have h2 : okF l = true := by simp only [okF, List.all_cons, Bool.and_eq_true] at h; exact h.2
    have h3 := joinB_len h2
    have h4 := YX.numB_len64 (n := f.length) (by omega)
    have e : joinB (f :: l) = (numB f.length ++ f) ++ joinB l := rfl
    rw [e, List.length_append, List.length_append, List.length_cons]
    omega
/-- The first frame, and what is behind it. -/
def cutF (b : Bs) : Option (Bs × Bs) :=
  match rdU b with
  | none => none
  | some (n, r) => if n < 1 ∨ 4096 < n ∨ r.length < n then none else some (r.take n, r.drop n)
theorem cutF_len {b f r : Bs} (h : cutF b = some (f, r)) : r.length < b.length := by
  unfold cutF at h
  split at h
  · cases h
  · rename_i n q e
    split at h
    · cases h
    · injection h with h
      injection h with h1 h2
      rw [← h2, List.length_drop]
      have := YX.rdU_rest e
      omega
def splitL (b : Bs) : Option (List Bs) :=
  if b = [] then some [] else
  match h : cutF b with
  | none => none
  | some (f, r) => (splitL r).map (f :: ·)
termination_by b.length
decreasing_by exact cutF_len h
theorem splitL_nil : splitL [] = some [] := by rw [splitL]; simp
theorem splitL_no {b : Bs} (hb : b ≠ []) (h : cutF b = none) : splitL b = none := by
  rw [splitL, if_neg hb]
  split
  · rfl
  · rename_i e; rw [h] at e; cases e
theorem splitL_yes {b f r : Bs} (hb : b ≠ []) (h : cutF b = some (f, r)) : splitL b = (splitL r).map (f :: ·) := by
  rw [splitL, if_neg hb]
  split
  · rename_i e; rw [h] at e; cases e
  · rename_i f' r' e; rw [h] at e; cases e; rfl
def splitF (b : Bs) : Option (List Bs) := if 65536 < b.length then none else splitL b
/-- How far one has come: what was split, and what is left. -/
def Way (b : Bs) (dn : List Bs) (r : Bs) : Prop := splitL b = (splitL r).map (dn ++ ·)
theorem Way.start (b : Bs) : Way b [] b := by unfold Way; cases splitL b <;> simp
theorem Way.next {b r f q : Bs} {dn : List Bs} (h : Way b dn r) (hr : r ≠ []) (hc : cutF r = some (f, q)) : Way b (dn ++ [f]) q := by
  unfold Way at *
  rw [h, splitL_yes hr hc]
  cases splitL q <;> simp
theorem Way.no {b r : Bs} {dn : List Bs} (h : Way b dn r) (hr : r ≠ []) (hc : cutF r = none) : splitL b = none := by
  unfold Way at h
  rw [h, splitL_no hr hc]; rfl
theorem Way.end_ {b : Bs} {dn : List Bs} (h : Way b dn []) : splitL b = some dn := by
  unfold Way at h
  rw [h, splitL_nil]; simp
/-! ## Joined, and split -/
theorem cut_join {f : Bs} (h : 1 ≤ f.length ∧ f.length ≤ 4096) (r : Bs) : cutF (numB f.length ++ f ++ r) = some (f, r) := by
  unfold cutF
  rw [List.append_assoc, YX.rdU_num (by omega)]
  simp only
  rw [if_neg (by rw [List.length_append]; omega)]
  simp
theorem split_join : ∀ {l : List Bs}, okF l = true → splitL (joinB l) = some l
  | [], _ => splitL_nil
  | f :: l, h => by
    have h1 := okF_at h (List.mem_cons_self ..)
    have h2 : okF l = true := by simp only [okF, List.all_cons, Bool.and_eq_true] at h; exact h.2
    have e : joinB (f :: l) = numB f.length ++ f ++ joinB l := rfl
    have hne : joinB (f :: l) ≠ [] := fun q => by
      have q1 := congrArg List.length q
      rw [e] at q1
      have q2 := YX.numB_pos f.length
      simp only [List.length_append, List.length_nil] at q1
      omega
    rw [splitL_yes hne (by rw [e]; exact cut_join h1 _), split_join h2]; rfl
theorem join_app (a b : List Bs) : joinB (a ++ b) = joinB a ++ joinB b := by simp [joinB]
theorem ok_app (a b : List Bs) : okF (a ++ b) = (okF a && okF b) := by simp [okF]
theorem join_nil {l : List Bs} (h : okF l = true) (hb : joinB l = []) : l = [] := by
  cases l with
  | nil => rfl
  | cons f l =>
    exfalso
    have q1 := congrArg List.length hb
    have e : joinB (f :: l) = numB f.length ++ f ++ joinB l := rfl
    rw [e] at q1
    have q2 := YX.numB_pos f.length
    simp only [List.length_append, List.length_nil] at q1
    omega
/-- Without the last byte there are no such frames. -/
theorem split_short : ∀ {l : List Bs}, okF l = true → l ≠ [] → splitL ((joinB l).take ((joinB l).length - 1)) = none
  | [], _, h => absurd rfl h
  | f :: l, h, _ => by
    have h1 := okF_at h (List.mem_cons_self ..)
    have h2 : okF l = true := by simp only [okF, List.all_cons, Bool.and_eq_true] at h; exact h.2
    have e : joinB (f :: l) = numB f.length ++ f ++ joinB l := rfl
    have hp := YX.numB_pos f.length
    by_cases hl : l = []
    · subst hl
      have e2 : (joinB [f]).take ((joinB [f]).length - 1) = numB f.length ++ f.take (f.length - 1) := by
        have e3 : joinB [f] = numB f.length ++ f := by simp [joinB]
        rw [e3, List.length_append, List.take_append, List.take_of_length_le (by omega)]
        congr 2; omega
      have hne : numB f.length ++ f.take (f.length - 1) ≠ [] := fun q => by
        have := congrArg List.length q
        simp only [List.length_append, List.length_nil] at this
        omega
      rw [e2]
      refine splitL_no hne ?_
      unfold cutF
      rw [YX.rdU_num (by omega)]
      simp only
      rw [if_pos (by rw [List.length_take]; omega)]
    · have hj : joinB l ≠ [] := fun q => hl (join_nil h2 q)
      have hjl : 0 < (joinB l).length := List.length_pos_iff.2 hj
      have e2 : (joinB (f :: l)).take ((joinB (f :: l)).length - 1) = numB f.length ++ f ++ (joinB l).take ((joinB l).length - 1) := by
        rw [e, List.length_append, List.take_append, List.take_of_length_le (by omega)]
        congr 2; omega
      have hne : numB f.length ++ f ++ (joinB l).take ((joinB l).length - 1) ≠ [] := fun q => by
        have := congrArg List.length q
        simp only [List.length_append, List.length_nil] at this
        omega
      rw [e2, splitL_yes hne (cut_join h1 _), split_short h2 hl]; rfl
end Go.Proofs.Ytkgjgbenfpkekaa.JX
