/-
  A TEXT PUT IN AT ITS PLACE, ONCE (the document's Sort), and a list with the texts of another left out (its Without). No walk.
-/
import Derived.Test.YtmhilhdmbbdnaaaGreatDoorHOrder
namespace Go.Proofs.YtmhilhdmbbdnaaaGreatDoor.HL
open Go.RowKit
set_option linter.unusedVariables false
set_option linter.unusedSimpArgs false

theorem sortU_take_has {l : List Bs} {k : Nat} (h : k < l.length) (hm : l[k] ∈ sortU (l.take k)) : sortU (l.take (k + 1)) = sortU (l.take k) := by
  rw [List.take_succ_eq_append_getElem h]
  refine asc_uniq (sortU_asc _) (sortU_asc _) fun x => ?_
  rw [sortU_mem, sortU_mem, List.mem_append, List.mem_singleton]
  refine ⟨fun q => q.elim id fun e => ?_, .inl⟩
  subst e
  exact sortU_mem.1 hm
/-- All ahead of p are less than x; the one at p, if there is one, is not; x is not there: then x belongs at p. -/
theorem sortU_take_in {l : List Bs} {k p : Nat} (h : k < l.length) (hm : l[k] ∉ sortU (l.take k)) (hp : p ≤ (sortU (l.take k)).length) (h1 : ∀ x ∈ (sortU (l.take k)).take p, x < l[k])
    (h2 : ∀ (q : p < (sortU (l.take k)).length), ¬ (sortU (l.take k))[p] < l[k]) :
    sortU (l.take (k + 1)) = (sortU (l.take k)).take p ++ [l[k]] ++ (sortU (l.take k)).drop p := by
  rw [List.take_succ_eq_append_getElem h]
  have hA := sortU_asc (l.take k)
  have hM := fun x => @sortU_mem (l.take k) x
  generalize sortU (l.take k) = L at *
  have hsplit : L = L.take p ++ L.drop p := (List.take_append_drop p L).symm
  have hdrop : ∀ y ∈ L.drop p, l[k] < y := by
    intro y hy
    by_cases q : p < L.length
    · have hd : L.drop p = L[p] :: L.drop (p + 1) := List.drop_eq_getElem_cons q
      have hlt : l[k] < L[p] := by
        rcases tri l[k] L[p] with t | t | t
        · exact t
        · exact absurd (by rw [t]; exact List.getElem_mem q) hm
        · exact absurd t (h2 q)
      have hA2 : Asc (L.drop p) := by
        rw [hsplit] at hA
        exact (List.pairwise_append.1 hA).2.1
      rw [hd] at hy hA2
      rcases List.mem_cons.1 hy with e | e
      · rw [e]; exact hlt
      · exact lt_trans hlt ((List.pairwise_cons.1 hA2).1 y e)
    · rw [List.drop_eq_nil_of_le (by omega)] at hy
      cases hy
  refine asc_uniq (sortU_asc _) ?_ fun x => ?_
  · have hA' := hA
    rw [hsplit] at hA'
    obtain ⟨p1, p2, p3⟩ := List.pairwise_append.1 hA'
    rw [List.append_assoc]
    refine List.pairwise_append.2 ⟨p1, List.pairwise_cons.2 ⟨hdrop, p2⟩, fun a ha b hb => ?_⟩
    rcases List.mem_cons.1 hb with e | e
    · rw [e]; exact h1 a ha
    · exact p3 a ha b e
  · rw [sortU_mem, List.mem_append, List.mem_singleton, ← hM x]
    simp only [List.mem_append, List.mem_singleton]
    constructor
    · rintro (q | q)
      · rw [hsplit, List.mem_append] at q
        exact q.elim (fun a => .inl (.inl a)) .inr
      · exact .inl (.inr q)
    · rintro ((q | q) | q)
      · exact .inl (List.mem_of_mem_take q)
      · exact .inr q
      · exact .inl (List.mem_of_mem_drop q)
/-- The law's Without: what is in a and not in b, sorted, is withoutU's. -/
theorem sortU_filter (xs ys : List Bs) : sortU (xs.filter fun x => !decide (x ∈ ys)) = (sortU xs).filter fun x => !decide (x ∈ sortU ys) := by
  refine asc_uniq (sortU_asc _) (List.Pairwise.filter _ (sortU_asc xs)) fun x => ?_
  rw [sortU_mem, List.mem_filter, List.mem_filter, sortU_mem]
  simp [sortU_mem]
end Go.Proofs.YtmhilhdmbbdnaaaGreatDoor.HL
