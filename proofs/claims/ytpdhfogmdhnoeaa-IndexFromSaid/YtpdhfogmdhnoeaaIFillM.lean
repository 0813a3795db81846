/-
  PLAIN: what was put in and not taken away, beside the list.
-/
import Derived.Test.YtpdhfogmdhnoeaaIActs
namespace Go.Proofs.Ytpdhfogmdhnoeaa.IX
open Go.RowKit HL
set_option maxRecDepth 100000
set_option linter.unusedVariables false
set_option linter.unusedSimpArgs false

/-- What was put in and not taken away, beside the list. -/
structure Fil (l : List Rw) (inn : List Act1) : Prop where
  up : Up l
  nd : (inn.map Act1.h).Nodup
  len : inn.length = l.length
  mem : ∀ a ∈ inn, (a.h, a.n) ∈ l
  con : ∀ r ∈ l, ∃ a ∈ inn, a.h = r.1
theorem Fil.nil : Fil [] [] := ⟨by simp [Up, keys, Asc], by simp, rfl, by simp, by simp⟩
theorem Fil.has {l : List Rw} {inn : List Act1} (f : Fil l inn) {h : Bs} : hasB l h = true ↔ ∃ a ∈ inn, a.h = h := by
  rw [hasB_iff]
  constructor
  · intro q
    obtain ⟨r, hr, rfl⟩ := List.mem_map.1 q
    exact f.con r hr
  · rintro ⟨a, ha, rfl⟩
    exact List.mem_map.2 ⟨_, f.mem a ha, rfl⟩
theorem mem_row {l : List Rw} (u : Up l) {h : Bs} {n : Int} (q : (h, n) ∈ l) : hasB l h = true ∧ numOf l h = n ∧ atH l (plc l h) = h ∧ atN l (plc l h) = n ∧ inB l (plc l h) = true := by
  obtain ⟨i, hi, e⟩ := List.getElem_of_mem q
  have e1 : h = l[i].1 := by rw [e]
  have e2 : n = l[i].2 := by rw [e]
  rw [e1, e2, plc_self u hi]
  exact ⟨has_of hi rfl, numOf_at u hi, (at_nat hi).1, (at_nat hi).2, inB_nat l i hi⟩
theorem Fil.row {l : List Rw} {inn : List Act1} (f : Fil l inn) {a : Act1} (ha : a ∈ inn) : hasB l a.h = true ∧ numOf l a.h = a.n ∧ atH l (plc l a.h) = a.h ∧ atN l (plc l a.h) = a.n ∧ inB l (plc l a.h) = true := mem_row f.up (f.mem a ha)
theorem Fil.take {l : List Rw} {inn : List Act1} (f : Fil l inn) {j : Nat} (hj : j < inn.length) : Fil (takeL l inn[j].h) (inn.take j ++ inn.drop (j + 1)) := by
  have hk : hasB l inn[j].h = true := f.has.2 ⟨_, List.getElem_mem hj, rfl⟩
  have ht : takeL l inn[j].h = del l inn[j].h := by simp [takeL, hk]
  obtain ⟨hp, _⟩ := has_at f.up hk
  have hsub : (inn.take j ++ inn.drop (j + 1)).Sublist inn := by
    have e : inn = inn.take j ++ inn.drop j := (List.take_append_drop _ _).symm
    conv => rhs; rw [e]
    exact (List.Sublist.refl _).append (by rw [List.drop_eq_getElem_cons hj]; exact List.sublist_cons_self _ _)
  have hne : ∀ a ∈ inn.take j ++ inn.drop (j + 1), a.h ≠ inn[j].h := by
    intro a ha e
    have hnd := f.nd
    have e3 : inn = inn.take j ++ inn[j] :: inn.drop (j + 1) := by rw [← List.drop_eq_getElem_cons hj, List.take_append_drop]
    rw [e3, List.map_append, List.map_cons, List.nodup_append] at hnd
    obtain ⟨_, h2, h3⟩ := hnd
    rcases List.mem_append.1 ha with q | q
    · exact h3 a.h (List.mem_map.2 ⟨a, q, rfl⟩) inn[j].h (List.mem_cons_self) e
    · exact (List.nodup_cons.1 h2).1 (e ▸ List.mem_map.2 ⟨a, q, rfl⟩)
  rw [ht]
  refine ⟨up_del f.up _, (hsub.map _).nodup f.nd, ?_, ?_, ?_⟩
  · have := f.len; rw [del_len hp]; simp; omega
  · exact fun a ha => (mem_del f.up hk).2 ⟨f.mem a (hsub.subset ha), hne a ha⟩
  · intro r hr
    obtain ⟨h1, h2⟩ := (mem_del f.up hk).1 hr
    obtain ⟨a, ha, e⟩ := f.con r h1
    refine ⟨a, ?_, e⟩
    have e3 : inn = inn.take j ++ inn[j] :: inn.drop (j + 1) := by rw [← List.drop_eq_getElem_cons hj, List.take_append_drop]
    rw [e3] at ha
    rcases List.mem_append.1 ha with q | q
    · exact List.mem_append.2 (.inl q)
    · rcases List.mem_cons.1 q with q | q
      · rw [← e, q] at h2; exact absurd rfl h2
      · exact List.mem_append.2 (.inr q)
theorem Fil.put {l : List Rw} {inn : List Act1} (f : Fil l inn) {a : Act1} (h1 : mayS a.h = true) (h2 : 0 ≤ a.n) (h3 : hasB l a.h = false) : Fil (putL l a.h a.n) (inn ++ [a]) := by
  have ht : putL l a.h a.n = ins l a.h a.n := by simp [putL, h1, h2, h3]
  rw [ht]
  refine ⟨up_ins f.up _ h3, ?_, ?_, ?_, ?_⟩
  · rw [List.map_append, List.nodup_append]
    refine ⟨f.nd, by simp, ?_⟩
    intro x hx y hy e
    obtain ⟨b, hb, rfl⟩ := List.mem_map.1 hx
    simp at hy; subst hy
    exact absurd (f.has.2 ⟨b, hb, e⟩) (by rw [h3]; simp)
  · rw [ins_len, List.length_append, f.len]; rfl
  · intro b hb
    rw [mem_ins]
    rcases List.mem_append.1 hb with q | q
    · exact .inr (f.mem b q)
    · simp at q; subst q; exact .inl rfl
  · intro r hr
    rcases mem_ins.1 hr with q | q
    · exact ⟨a, by simp, by rw [q]⟩
    · obtain ⟨b, hb, e⟩ := f.con r q
      exact ⟨b, List.mem_append.2 (.inl hb), e⟩
theorem putE_0 (l : List Rw) (h : Bs) (n : Int) : putE l h n = 0 ↔ mayS h = true ∧ 0 ≤ n ∧ hasB l h = false := by
  unfold putE
  cases mayS h <;> cases hasB l h <;> by_cases k : n < 0 <;> simp [k] <;> omega
theorem putL_no {l : List Rw} {h : Bs} {n : Int} (k : putE l h n ≠ 0) : putL l h n = l := by
  unfold putL
  rw [if_neg (fun q => k ((putE_0 l h n).2 q))]
theorem takeE_0 (l : List Rw) (h : Bs) : takeE l h = if hasB l h = true then 0 else 70 := rfl
theorem takeL_no {l : List Rw} {h : Bs} (k : hasB l h = false) : takeL l h = l := by simp [takeL, k]
/-- Rows of different kinds don't lie in one block. -/
theorem own_apartK {α β : Type} {K1 : El α} {K2 : El β} {w : World} {b1 b2 : Nat} {v1 v2 : Value} {l1 : List α} {l2 : List β} (hne : K1.e ≠ K2.e) (h1 : OwnK K1 w b1 v1 l1) (h2 : OwnK K2 w b2 v2 l2) : ∀ k, v1.ownBlock = some k → v2.ownBlock ≠ some k := by
  intro k e1 e2
  rcases h1.2 with ⟨rfl, _⟩ | ⟨g, cap, cur, rfl, _, hh, _⟩
  · simp [Value.ownBlock] at e1
  · rcases h2.2 with ⟨rfl, _⟩ | ⟨g', cap', cur', rfl, _, hh', _⟩
    · simp [Value.ownBlock] at e2
    · simp only [Value.ownBlock, Option.some.injEq] at e1 e2
      subst e1; subst e2
      rw [hh] at hh'
      injection hh' with hh'
      injection hh' with _ e3 _
      exact hne e3
theorem act_row : actK.e ≠ rowK.e := by
  show (32 : TypeId) ≠ 70
  decide
end Go.Proofs.Ytpdhfogmdhnoeaa.IX
