/-
  PLAIN: what Above gives; who is walked.
-/
import Derived.Test.YtlfbjgeobibnhaaDoorRZ9
namespace Go.Proofs.YtlfbjgeobibnhaaDoor.TX
open Go.RowKit HL
open IX (Rw keys Up)
set_option linter.unusedVariables false
set_option linter.unusedSimpArgs false
section
variable {s : Sl} {h p x : Bs} {q P : List Bs}
/-- Handles, each that of the Parent of the one before. -/
inductive Ch (s : Sl) : Bs → List Bs → Prop
  | nil {p : Bs} : Ch s p []
  | cons {p : Bs} {l : List Bs} : there s p = true → Ch s (pb (obAt s p)) l → Ch s p (p :: l)
/-- The Parent of the last. -/
def endP (s : Sl) : Bs → List Bs → Bs
  | p, [] => p
  | _, x :: l => endP s (pb (obAt s x)) l
theorem upL_spec (hl : s.length ≤ 64) : ∀ (n : Nat) (acc : List Bs) (p : Bs), acc.Nodup → (∀ x ∈ acc, there s x = true) → acc.length + n = 65 →
    ∃ q, upL s n acc p = acc ++ q ∧ Ch s p q ∧ (acc ++ q).Nodup ∧ (there s (endP s p q) = false ∨ endP s p q ∈ acc ++ q)
  | 0, acc, p, h1, h2, h3 => by have := acc_len h1 h2 hl; omega
  | n + 1, acc, p, h1, h2, h3 => by
    unfold upL
    cases ht : there s p with
    | false => exact ⟨[], by simp, .nil, by simpa using h1, .inl ht⟩
    | true =>
      by_cases hm : p ∈ acc
      · exact ⟨[], by simp [hm], .nil, by simpa using h1, .inr (by simpa [endP] using hm)⟩
      · obtain ⟨q, e, c, nd, en⟩ := upL_spec hl n (acc ++ [p]) (pb (obAt s p))
          (List.nodup_append.2 ⟨h1, by simp, fun a ha b hb e => by simp at hb; subst hb; subst e; exact hm ha⟩)
          (fun x hx => (List.mem_append.1 hx).elim (h2 x) (fun hx => by obtain rfl : x = p := by simpa using hx
                                                                        exact ht)) (by simp; omega)
        refine ⟨p :: q, by simp [hm, e], .cons ht c, by simpa using nd, ?_⟩
        have : endP s p (p :: q) = endP s (pb (obAt s p)) q := rfl
        rw [this]
        rcases en with en | en
        · exact .inl en
        · exact .inr (by simpa using en)
theorem above_spec (hl : s.length ≤ 64) (h : Bs) : Ch s (pb (obAt s h)) (above s h) ∧ (above s h).Nodup ∧ (there s (endP s (pb (obAt s h)) (above s h)) = false ∨ endP s (pb (obAt s h)) (above s h) ∈ above s h) := by
  obtain ⟨q, e, c, nd, en⟩ := upL_spec hl 65 [] (pb (obAt s h)) List.nodup_nil (by simp) rfl
  unfold above
  rw [e]
  simpa using ⟨c, nd, en⟩
theorem Ch.path (k : Ch s p q) : ∀ h, there s h = true → pb (obAt s h) = p → there s (endP s p q) = false → Path s h (h :: q) := by
  induction k with
  | nil => intro h h1 h2 h3; exact .top h1 (by rw [h2]; exact h3)
  | cons h1 _ ih => intro h h2 h3 h4; exact .up h2 (by rw [h3]; exact ih _ h1 rfl h4)
theorem Ch.up (k : Ch s p q) : ∀ P, Path s p P → (there s (endP s p q) = true → ∃ R, Path s (endP s p q) R ∧ R.length + q.length = P.length) ∧ ∀ x ∈ q, ∃ X, Path s x X ∧ P.length < X.length + q.length := by
  induction k with
  | nil => intro P hP; exact ⟨fun _ => ⟨P, hP, rfl⟩, by simp⟩
  | cons h1 c ih =>
    intro P hP
    cases hP with
    | top _ h2 =>
      cases c with
      | nil =>
        refine ⟨fun e => ?_, fun x hx => ?_⟩
        · have e : there s (pb (obAt s _)) = true := e
          rw [h2] at e; cases e
        · obtain rfl := List.mem_singleton.1 hx
          exact ⟨_, .top h1 h2, by simp⟩
      | cons h3 _ => rw [h2] at h3; cases h3
    | up _ hP' =>
      obtain ⟨i1, i2⟩ := ih _ hP'
      refine ⟨fun e => ?_, fun x hx => ?_⟩
      · obtain ⟨R, r1, r2⟩ := i1 e
        exact ⟨R, r1, by simp; omega⟩
      · rcases List.mem_cons.1 hx with rfl | hx
        · exact ⟨_, .up h1 hP', by simp⟩
        · obtain ⟨X, x1, x2⟩ := i2 x hx
          exact ⟨X, x1, by simp; omega⟩
/-- Who has a way up to the top: just those whose last ancestor's Parent is not there. -/
theorem path_iff (hl : s.length ≤ 64) (ht : there s h = true) : (∃ P, Path s h P) ↔ there s (endP s (pb (obAt s h)) (above s h)) = false := by
  obtain ⟨c, nd, en⟩ := above_spec hl h
  constructor
  · rintro ⟨P, hP⟩
    rcases en with en | en
    · exact en
    · cases hP with
      | top _ h2 =>
        cases hq : above s h with
        | nil => rw [hq] at en; cases en
        | cons x l => rw [hq] at c; cases c with | cons h3 _ => rw [h2] at h3; cases h3
      | up _ hP' =>
        obtain ⟨i1, i2⟩ := c.up _ hP'
        obtain ⟨X, x1, x2⟩ := i2 _ en
        obtain ⟨R, r1, r2⟩ := i1 x1.there
        have := congrArg List.length (x1.uniq r1)
        omega
  · intro e; exact ⟨_, c.path h ht rfl e⟩
/-- Who is walked. -/
theorem below_has (wf : Wf s) : ∀ (n : Nat) (g : Bs) (P q : List Bs), Path s g P → Path s x (q ++ P) → q.length < n → x ∈ hs (below s n g)
  | 0, g, P, q, _, _, h3 => by omega
  | n + 1, g, P, q, h1, h2, h3 => by
    have e0 : hb (obAt s g) = g := by obtain ⟨o, a1, a2, a3, _⟩ := there_t h1.there; rw [a3, a2]
    rcases List.eq_nil_or_concat q with rfl | ⟨q', r, rfl⟩
    · have e : x = g := by
        cases h1 with
        | top _ _ => cases h2 <;> rfl
        | up _ _ => cases h2 <;> rfl
      subst e
      show x ∈ hb (obAt s x) :: _
      rw [e0]; simp
    · have hsplit : q' ++ [r] ++ P = q' ++ (r :: P) := by simp
      rw [List.concat_eq_append, hsplit] at h2
      -- r's way up is r :: P
      have hr : Path s r (r :: P) := by
        clear h3
        induction q' generalizing x with
        | nil =>
          simp at h2
          cases h2 with
          | top _ _ => cases h1
          | up a b => exact .up a b
        | cons y q' ih =>
          have h2 : Path s x (y :: (q' ++ r :: P)) := h2
          generalize hL : q' ++ r :: P = L at h2
          cases h2 with
          | top a b => simp at hL
          | up a b => subst hL; exact ih b (by simp)
      have hpar : there s r = true ∧ pb (obAt s r) = g := by
        cases hr with
        | top a b => cases h1
        | up a b =>
          refine ⟨a, ?_⟩
          cases h1 with
          | top _ _ => cases b <;> rfl
          | up _ _ => cases b <;> rfl
      obtain ⟨o, a1, a2, a3, a4⟩ := there_t hpar.1
      have hrow : ((r, (slotN s r : Int)) : Rw) ∈ rowsOf s (some g) := (mem_rowsOf wf).2 ⟨slotN s r, o, rfl, a1, a2, fun p' e => by
        cases e
        rw [← hpar.2, a3]⟩
      have ih := below_has wf n r (r :: P) q' hr h2 (by simp at h3; omega)
      show x ∈ hb (obAt s g) :: hs _
      rw [hs_flat]
      exact List.mem_cons_of_mem _ (List.mem_flatMap.2 ⟨_, hrow, ih⟩)
theorem walk_has (wf : Wf s) : x ∈ hs (walkL s) ↔ ∃ P, Path s x P := by
  constructor
  · intro hx
    obtain ⟨a, ha, rfl⟩ := List.mem_map.1 hx
    exact (walk_spec wf ha).2
  · rintro ⟨P, hP⟩
    -- the last of the way up is a top
    have key : ∀ (x : Bs) (P : List Bs), Path s x P → ∃ q t, P = q ++ [t] ∧ Path s t [t] := fun x P hP => by
      induction hP with
      | top a b => exact ⟨[], _, rfl, .top a b⟩
      | up a b ih =>
        obtain ⟨q, t, e, k⟩ := ih
        exact ⟨_ :: q, t, by rw [e]; rfl, k⟩
    obtain ⟨q, t, e, k⟩ := key x P hP
    subst e
    have hlen := hP.len wf.ln
    have hb1 := below_has wf 65 t [t] q k hP (by simp at hlen; omega)
    have ht : there s (pb (obAt s t)) = false := by
      cases k with
      | top _ b => exact b
      | up _ b => cases b
    obtain ⟨o, a1, a2, a3, _⟩ := there_t k.there
    have hrow : ((t, (slotN s t : Int)) : Rw) ∈ rowsOf s none := (mem_rowsOf wf).2 ⟨slotN s t, o, rfl, a1, a2, fun p' e => by cases e⟩
    unfold walkL
    rw [hs_flat]
    refine List.mem_flatMap.2 ⟨_, hrow, ?_⟩
    unfold topR
    rw [if_neg (by rw [ht]; simp)]
    exact hb1
end
end Go.Proofs.YtlfbjgeobibnhaaDoor.TX
