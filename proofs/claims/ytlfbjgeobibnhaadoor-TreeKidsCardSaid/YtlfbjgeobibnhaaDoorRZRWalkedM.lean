/-
  PLAIN: what TreeOnce, TreeWalked and TreeKids ask of the slots.
-/
import Derived.Test.YtlfbjgeobibnhaaDoorRZ11
import Derived.Test.YtlfbjgeobibnhaaDoorRZRUpMath
namespace Go.Proofs.YtlfbjgeobibnhaaDoor.TX
open Go.RowKit HL
open IX (Rw keys Up mayS)
set_option linter.unusedVariables false
set_option linter.unusedSimpArgs false
section
variable {s : Sl} {inn : List Ob}
theorem nodup_take {l : List Bs} (h : l.Nodup) {i : Nat} (hi : i < l.length) : l[i] ∉ l.take i := by
  intro hm
  obtain ⟨j, hj, e⟩ := List.getElem_of_mem hm
  have hj2 := hj
  rw [List.length_take] at hj2
  rw [List.getElem_take] at e
  have := (List.getElem_inj (xs := l) (h₀ := by omega) (h₁ := hi) h).1 e
  omega
theorem hs_all (wf : Wf s) : hs (obsR s (rowsOf s none)) = keys (rowsOf s none) := by
  unfold hs obsR keys
  rw [List.map_map]
  exact List.map_congr_left fun r hr => (kid_spec wf hr).2.1
theorem all_asc (wf : Wf s) : Asc (hs (obsR s (rowsOf s none))) := by rw [hs_all wf]; exact rowsOf_up s none
theorem all_len (f : Fil8 s inn) : (rowsOf s none).length = inn.length := by
  have q : (rowsOf s none).length = (names s).length := by show (rowsN s).length = _; simp [rowsN]
  rw [q, f.len]
theorem in_len (f : Fil8 s inn) : inn.length ≤ s.length := by rw [f.len]; exact names_len s
/-! ## The slots that are held -/
def heldL (s : Sl) (inn : List Ob) (k : Nat) : List Bool := (List.range s.length).map fun j => (inn.take k).any fun a => slotN s (hb a) == j
theorem heldL_len (k : Nat) : (heldL s inn k).length = s.length := by simp [heldL]
theorem heldL_0 : heldL s inn 0 = List.replicate s.length false := by
  apply List.ext_getElem
  · simp [heldL]
  · intro i h1 h2
    simp [heldL]
theorem heldL_at {k j : Nat} (hj : j < s.length) : (heldL s inn k)[j]? = some ((inn.take k).any fun a => slotN s (hb a) == j) := by simp [heldL, hj]
theorem heldL_no (f : Fil8 s inn) (wf : Wf s) {k : Nat} (hk : k < inn.length) : slotN s (hb inn[k]) < s.length ∧ (heldL s inn k)[slotN s (hb inn[k])]? = some false := by
  obtain ⟨h1, h2, h3⟩ := f.at_ wf (List.getElem_mem hk)
  refine ⟨h3.lt, ?_⟩
  rw [heldL_at h3.lt]
  congr 1
  rw [List.any_eq_false]
  intro a ha e
  have e : slotN s (hb a) = slotN s (hb inn[k]) := by simpa using e
  obtain ⟨i, hi, rfl⟩ := List.getElem_of_mem ha
  have hi2 := hi
  rw [List.length_take] at hi2
  rw [List.getElem_take] at e
  have hil : i < inn.length := by omega
  obtain ⟨_, _, g3⟩ := f.at_ wf (List.getElem_mem hil)
  rw [e] at g3
  have e2 := g3.uniq h3
  have hnd := f.nd
  have a1 : i < (hs inn).length := by simpa [hs] using hil
  have a2 : k < (hs inn).length := by simpa [hs] using hk
  have := (List.getElem_inj (xs := hs inn) (h₀ := a1) (h₁ := a2) hnd).1 (by simp [hs, e2])
  omega
theorem heldL_next {k : Nat} (hk : k < inn.length) : heldL s inn (k + 1) = (heldL s inn k).set (slotN s (hb inn[k])) true := by
  apply List.ext_getElem?
  intro j
  by_cases hj : j < s.length
  · rw [heldL_at hj, List.getElem?_set, List.take_succ_eq_append_getElem hk, List.any_append]
    by_cases e : slotN s (hb inn[k]) = j
    · rw [if_pos e]
      subst e
      simp [heldL, hj]
    · rw [if_neg e, heldL_at hj]
      simp [e]
  · rw [List.getElem?_eq_none (by rw [heldL_len]; omega), List.getElem?_eq_none (by rw [List.length_set, heldL_len]; omega)]
/-! ## Behind the Parent -/
def Beh (s : Sl) (pre : List Bs) (l : List Ob) : Prop := ∀ (l1 : List Ob) (a : Ob) (l2 : List Ob), l = l1 ++ a :: l2 → there s (pb a) = true → pb a ∈ pre ∨ pb a ∈ hs l1
theorem Beh.mono {pre pre' : List Bs} {l : List Ob} (h : Beh s pre l) (k : ∀ x ∈ pre, x ∈ pre') : Beh s pre' l := fun l1 a l2 e t => (h l1 a l2 e t).imp (k _) id
theorem Beh.nil {pre : List Bs} : Beh s pre [] := fun l1 a l2 e => by simp at e
theorem Beh.one {pre : List Bs} {x : Ob} (h : there s (pb x) = true → pb x ∈ pre) : Beh s pre [x] := fun l1 a l2 e t => by
  cases l1 with
  | nil => simp at e; obtain ⟨rfl, rfl⟩ := e; exact .inl (h t)
  | cons y l1 => simp at e
theorem Beh.app {pre : List Bs} {x y : List Ob} (h : Beh s pre x) (k : Beh s (pre ++ hs x) y) : Beh s pre (x ++ y) := fun l1 a l2 e t => by
  rcases List.append_eq_append_iff.1 e with ⟨a', e1, e2⟩ | ⟨c', e1, e2⟩
  · subst e1
    rcases k a' a l2 e2 t with q | q
    · rcases List.mem_append.1 q with q | q
      · exact .inl q
      · exact .inr (by unfold hs; rw [List.map_append]; exact List.mem_append_left _ q)
    · exact .inr (by unfold hs; rw [List.map_append]; exact List.mem_append_right _ q)
  · cases c' with
    | nil =>
      have e1 : x = l1 := by simpa using e1
      subst e1
      rcases k [] a l2 (by simpa using e2.symm) t with q | q
      · exact (List.mem_append.1 q)
      · simp [hs] at q
    | cons b c' =>
      have e2 : a = b ∧ l2 = c' ++ y := by simpa using e2
      obtain ⟨rfl, rfl⟩ := e2
      exact h l1 a c' e1 t
theorem Beh.flat {α : Type} {f : α → List Ob} : ∀ (l : List α) (pre : List Bs), (∀ r ∈ l, Beh s pre (f r)) → Beh s pre (l.flatMap f)
  | [], pre, _ => by rw [List.flatMap_nil]; exact Beh.nil
  | r :: l, pre, h => by
    rw [List.flatMap_cons]
    exact (h r (by simp)).app (Beh.flat l _ fun r' hr => (h r' (by simp [hr])).mono fun x hx => List.mem_append_left _ hx)
theorem below_beh (wf : Wf s) : ∀ (n : Nat) (h : Bs) (p : List Bs), Path s h p → ∀ pre : List Bs, (there s (pb (obAt s h)) = true → pb (obAt s h) ∈ pre) → Beh s pre (below s n h)
  | 0, h, p, k, pre, _ => Beh.nil
  | n + 1, h, p, k, pre, hp => by
    have e0 : hb (obAt s h) = h := by obtain ⟨o, h1, h2, h3, _⟩ := there_t k.there; rw [h3, h2]
    have q := (Beh.one hp).app (Beh.flat (rowsOf s (some h)) (pre ++ hs [obAt s h]) (f := fun r => below s n r.1) fun r hr => below_beh wf n r.1 _ (k.kid wf hr) _ fun _ => by
      rw [(kid_spec wf hr).2.2 h rfl]
      simp [hs, e0])
    exact q
theorem walk_beh (wf : Wf s) : Beh s [] (walkL s) := by
  unfold walkL
  refine Beh.flat _ _ fun r hr => ?_
  unfold topR
  split
  · exact Beh.nil
  · rename_i ht
    have ht : there s (pb (obAt s r.1)) = false := by simpa using ht
    exact below_beh wf 65 _ _ (top_path wf hr ht) _ fun e => by rw [ht] at e; cases e
/-- Of what is walked: it is there, none twice, behind its Parent. -/
theorem walked_at (wf : Wf s) {i : Nat} (hi : i < (walkL s).length) : there s (hb (walkL s)[i]) = true ∧ obAt s (hb (walkL s)[i]) = (walkL s)[i] ∧ hb (walkL s)[i] ∉ (hs (walkL s)).take i ∧ (there s (pb (walkL s)[i]) = true → pb (walkL s)[i] ∈ (hs (walkL s)).take i) := by
  obtain ⟨e, P, hP⟩ := walk_spec wf (List.getElem_mem hi)
  have hi2 : i < (hs (walkL s)).length := by simpa [hs] using hi
  refine ⟨hP.there, e, ?_, fun t => ?_⟩
  · have := nodup_take (walk_nodup wf) hi2
    simpa [hs] using this
  · have hsplit : walkL s = (walkL s).take i ++ (walkL s)[i] :: (walkL s).drop (i + 1) := by rw [List.getElem_cons_drop, List.take_append_drop]
    rcases walk_beh wf _ _ _ hsplit t with q | q
    · cases q
    · unfold hs at q ⊢
      rwa [List.map_take] at q
/-! ## The way up -/
theorem endP_last : ∀ (q : List Bs) (p : Bs), (h : q ≠ []) → endP s p q = pb (obAt s (q.getLast h))
  | [], _, h => absurd rfl h
  | [x], p, _ => rfl
  | x :: y :: l, p, _ => by
    have := endP_last (y :: l) (pb (obAt s x)) (by simp)
    rw [List.getLast_cons (by simp)]
    exact this
/-- Who is walked: whose top's Parent isn't there. -/
theorem walked_ring (wf : Wf s) {h : Bs} (ht : there s h = true) : decide (h ∈ hs (walkL s)) = !(there s (endP s (pb (obAt s h)) (above s h))) := by
  have h1 := walk_has (x := h) wf
  have h2 := path_iff (h := h) wf.ln ht
  cases q : there s (endP s (pb (obAt s h)) (above s h)) with
  | true =>
    rw [q] at h2
    have : h ∉ hs (walkL s) := fun x => by have := h2.1 (h1.1 x); cases this
    simp [this]
  | false =>
    have : h ∈ hs (walkL s) := h1.2 (h2.2 q)
    simp [this]
theorem above_head (wf : Wf s) (h : Bs) : (there s (pb (obAt s h)) = true ∧ ∃ l, above s h = pb (obAt s h) :: l) ∨ (there s (pb (obAt s h)) = false ∧ above s h = []) := by
  obtain ⟨c, nd, en⟩ := above_spec wf.ln h
  cases q : above s h with
  | nil =>
    rw [q] at en
    rcases en with en | en
    · exact .inr ⟨en, rfl⟩
    · cases en
  | cons x l =>
    rw [q] at c
    cases c with
    | cons h1 _ => exact .inl ⟨h1, l, rfl⟩
theorem ch_next {p : Bs} {q : List Bs} (c : Ch s p q) : ∀ k, (h : k + 1 < q.length) → there s (q[k]'(by omega)) = true ∧ pb (obAt s (q[k]'(by omega))) = q[k + 1] := by
  induction c with
  | nil => intro k h; simp at h
  | cons h1 c ih =>
    rename_i p l
    intro k h
    cases k with
    | zero =>
      refine ⟨h1, ?_⟩
      cases c with
      | nil => simp at h
      | cons _ _ => rfl
    | succ k => exact ih k (by simpa using h)
theorem above_next (wf : Wf s) (h : Bs) {k : Nat} (hk : k + 1 < (above s h).length) : there s ((above s h)[k]'(by omega)) = true ∧ pb (obAt s ((above s h)[k]'(by omega))) = (above s h)[k + 1] ∧ (above s h)[k + 1] ∉ (above s h).take (k + 1) := by
  obtain ⟨c, nd, _⟩ := above_spec wf.ln h
  exact ⟨(ch_next c k hk).1, (ch_next c k hk).2, nodup_take nd hk⟩
theorem above_len (wf : Wf s) (h : Bs) : (above s h).length ≤ 64 := by
  obtain ⟨c, nd, _⟩ := above_spec wf.ln h
  refine acc_len nd (fun x hx => ?_) wf.ln
  have key : ∀ {p : Bs} {q : List Bs}, Ch s p q → ∀ x ∈ q, there s x = true := fun c => by
    induction c with
    | nil => simp
    | cons h1 _ ih =>
      intro x hx
      rcases List.mem_cons.1 hx with rfl | hx
      · exact h1
      · exact ih x hx
  exact key c x hx
/-! ## Kids -/
theorem kid_mem (wf : Wf s) {k : Nat} {a : Ob} (ha : In s k a) (h : Bs) : decide (hb a ∈ keys (rowsOf s (some h))) = decide (pb a = h) := by
  refine decide_eq_decide.2 ⟨fun hx => ?_, fun e => ?_⟩
  · obtain ⟨r, hr, e⟩ := List.mem_map.1 hx
    obtain ⟨_, _, h3⟩ := kid_spec wf hr
    rw [e, (slotN_in wf ha).2.2] at h3
    exact h3 h rfl
  · exact List.mem_map.2 ⟨(hb a, (k : Int)), (mem_rowsOf wf).2 ⟨k, a, rfl, ha, rfl, fun p q => by cases q; exact e⟩, rfl⟩
theorem kids_asc (h : Bs) : Asc (keys (rowsOf s (some h))) := rowsOf_up s (some h)
end
end Go.Proofs.YtlfbjgeobibnhaaDoor.TX
