/-
  PLAIN: what is added and taken away again, or set and set back, leaves the slots as they were.
-/
import Derived.Test.YtlfbjgeobibnhaaDoorRZ11
namespace Go.Proofs.YtlfbjgeobibnhaaDoor.TX
open Go.RowKit HL
open IX (Rw keys Up mayS)
set_option linter.unusedVariables false
set_option linter.unusedSimpArgs false
theorem set_self {s : Sl} {k : Nat} {x : Option Ob} (h : s[k]? = some x) : s.set k x = s := by
  apply List.ext_getElem?
  intro i
  rw [List.getElem?_set]
  split
  · rename_i e; subst e
    have hk := (List.getElem?_eq_some_iff.1 h).1
    rw [if_pos hk, h]
  · rfl
theorem setS_yes {s : Sl} {o : Ob} (h : there s (hb o) = true) : setS s o = s.set (slotN s (hb o)) (some o) := by unfold setS; rw [if_pos h]
theorem set_wf {s : Sl} (wf : Wf s) {o : Ob} (ht : there s (hb o) = true) (hp : (pb o).length ≤ 100) : Wf (setS s o) := by
  obtain ⟨a, h1, h2, _, _⟩ := there_t ht
  unfold setS
  rw [if_pos ht]
  exact wf.add h1.lt (fun j b hj e => wf.nd j _ b a hj h1 (by rw [e, h2])) (by rw [← h2]; exact wf.may _ _ h1) hp
theorem set_slot {s : Sl} (wf : Wf s) {o : Ob} (ht : there s (hb o) = true) (hp : (pb o).length ≤ 100) : there (setS s o) (hb o) = true ∧ slotN (setS s o) (hb o) = slotN s (hb o) ∧ obAt (setS s o) (hb o) = o := by
  obtain ⟨a, h1, h2, _, _⟩ := there_t ht
  have w2 := set_wf wf ht hp
  have hi : In (setS s o) (slotN s (hb o)) o := by
    unfold setS
    rw [if_pos ht]
    exact (in_set h1.lt).2 (.inl ⟨rfl, rfl⟩)
  exact slotN_in w2 hi
theorem set_back {s : Sl} (wf : Wf s) {o : Ob} (ht : there s (hb o) = true) (hp : (pb o).length ≤ 100) : setS (setS s o) (obAt s (hb o)) = s := by
  obtain ⟨a, h1, h2, h3, _⟩ := there_t ht
  obtain ⟨q1, q2, _⟩ := set_slot wf ht hp
  rw [h3]
  have e : setS (setS s o) a = (setS s o).set (slotN s (hb o)) (some a) := by
    rw [setS_yes (s := setS s o) (o := a) (by rw [h2]; exact q1), h2, q2]
  rw [e]
  have e2 : setS s o = s.set (slotN s (hb o)) (some o) := by unfold setS; rw [if_pos ht]
  rw [e2, List.set_set]
  exact set_self h1
theorem add_there {s : Sl} (wf : Wf s) {o : Ob} (h : addE s o = 0) (hp : (pb o).length ≤ 100) : Wf (addS s o) ∧ there (addS s o) (hb o) = true ∧ slotN (addS s o) (hb o) = freeIx (tkOf s) ∧ obAt (addS s o) (hb o) = o := by
  obtain ⟨h1, h2, h3⟩ := addE_0.1 h
  have e : addS s o = s.set (freeIx (tkOf s)) (some o) := by unfold addS; rw [if_pos h]
  have hw : Wf (addS s o) := by
    rw [e]
    exact wf.add h3 (fun j a h4 h5 => absurd h5 (slotO_none.1 (there_f h2) j a h4)) h1 hp
  refine ⟨hw, slotN_in hw ?_⟩
  rw [e]
  exact (in_set h3).2 (.inl ⟨rfl, rfl⟩)
theorem rem_back {s : Sl} (wf : Wf s) {o : Ob} (h : addE s o = 0) (hp : (pb o).length ≤ 100) : remS (addS s o) (hb o) = s := by
  obtain ⟨_, h2, h3, _⟩ := add_there wf h hp
  obtain ⟨_, _, h5⟩ := addE_0.1 h
  have e : addS s o = s.set (freeIx (tkOf s)) (some o) := by unfold addS; rw [if_pos h]
  unfold remS
  rw [if_pos h2, h3, e, List.set_set]
  exact set_self (free_slot h5)
theorem add_many {s : Sl} {inn : List Ob} (f : Fil8 s inn) {o : Ob} (h : addE s o = 0) : (rowsOf (addS s o) none).length = (rowsOf s none).length + 1 := by
  have q : ∀ t : Sl, (rowsOf t none).length = (names t).length := fun t => by show (rowsN t).length = _; simp [rowsN]
  rw [q, q, ← f.len, ← (f.add h).len]; simp
theorem set_many {s : Sl} {inn : List Ob} (f : Fil8 s inn) (wf : Wf s) {o : Ob} (ht : there s (hb o) = true) : (rowsOf (setS s o) none).length = (rowsOf s none).length := by
  have q : ∀ t : Sl, (rowsOf t none).length = (names t).length := fun t => by show (rowsN t).length = _; simp [rowsN]
  obtain ⟨a, ha, e⟩ := f.has.1 ht
  obtain ⟨m, hm, rfl⟩ := List.getElem_of_mem ha
  rw [q, q, ← f.len, ← (f.set wf hm e).len]; simp
end Go.Proofs.YtlfbjgeobibnhaaDoor.TX
