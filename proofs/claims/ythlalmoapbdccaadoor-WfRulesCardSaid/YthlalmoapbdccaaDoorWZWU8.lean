/-
  Rows of kinds, one's own; what WfRules counts.
-/
import Derived.Test.YthlalmoapbdccaaDoorWZ14
namespace Go.Proofs.YthlalmoapbdccaaDoor.WX
open Go.RowKit HL
open IX (ptr El cellsK cellsK_at OwnK RdK strK)
set_option maxRecDepth 100000
set_option linter.unusedVariables false
set_option linter.unusedSimpArgs false

noncomputable def u8K : El Nat where
  T := 45
  e := 5
  size := 1
  bytes := 1
  z := .int .u8 0
  i := IX.infoOf 5
  enc := fun x => [.int .u8 x]
  el := by kernel_rfl
  ht := Tryd.underlying45
  hi := by kernel_rfl
  hz := by kernel_rfl
  hs := by kernel_rfl
  hb := by kernel_rfl
  hzs := rfl
  pos := by decide
  len := fun _ => rfl
  one := fun _ u hu => by simp at hu; subst hu; rfl
  small := by decide
theorem RdK.kinds {w : World} {B : Nat} {A : Option Addr} {l : List Nat} (h : RdK u8K w B A l) : RdU w B A l := by
  rcases h with h | ⟨b, off, e, hb, hc⟩
  · exact .inl h
  · refine .inr ⟨b, off, e, hb, fun j x hx => ?_⟩
    have h0 := hc _ _ (cellsK_at u8K hx (i := 0) (u := .int .u8 x) rfl)
    have e1 : j * u8K.size + 0 = j := by show j * 1 + 0 = j; omega
    rwa [e1] at h0
theorem cnt_app (a b : List Nat) (g : Nat) : cnt (a ++ b) g = cnt a g + cnt b g := by unfold cnt; rw [List.filter_append, List.length_append]
/-- The other ones under the parent, and itself, are all that stand there. -/
theorem sibs_cnt {l : List Ob} {i : Nat} (hi : i < l.length) (g : Nat) : ∀ k, k ≤ l.length → cnt (sibs l (pb l[i]) i k) g + (if i < k ∧ grp l[i].kind = g then 1 else 0) = und (l.take k) (pb l[i]) g := by
  intro k
  induction k with
  | zero => intro _; simp [sibs, cnt, und]
  | succ k ih =>
    intro hk
    have hlt : k < l.length := by omega
    have ih := ih (by omega)
    rw [sibs_next hlt, cnt_app, und_next hlt, ← ih]
    by_cases e : k = i
    · subst e
      have h1 : ¬ (pb l[k] = pb l[k] ∧ k ≠ k) := fun q => q.2 rfl
      rw [if_neg h1]
      by_cases q : grp l[k].kind = g
      · rw [if_neg (show ¬ (k < k ∧ grp l[k].kind = g) by omega), if_pos (show k < k + 1 ∧ grp l[k].kind = g from ⟨by omega, q⟩), if_pos (by simp [q])]
        simp [cnt]
      · rw [if_neg (show ¬ (k < k ∧ grp l[k].kind = g) by omega), if_neg (show ¬ (k < k + 1 ∧ grp l[k].kind = g) from fun z => q z.2), if_neg (by simp [q])]
        simp [cnt]
    · have h2 : (i < k + 1 ∧ grp l[i].kind = g) ↔ (i < k ∧ grp l[i].kind = g) := ⟨fun z => ⟨by omega, z.2⟩, fun z => ⟨by omega, z.2⟩⟩
      simp only [h2]
      by_cases p : pb l[k] = pb l[i]
      · rw [if_pos (⟨p, e⟩ : pb l[k] = pb l[i] ∧ k ≠ i)]
        by_cases q : grp l[k].kind = g
        · rw [if_pos (show (decide (pb l[k] = pb l[i]) && (grp l[k].kind == g)) = true by simp [p, q])]
          have : cnt [l[k].kind] g = 1 := by simp [cnt, q]
          omega
        · rw [if_neg (show ¬ (decide (pb l[k] = pb l[i]) && (grp l[k].kind == g)) = true by simp [q])]
          have : cnt [l[k].kind] g = 0 := by simp [cnt, q]
          omega
      · rw [if_neg (fun z => p z.1 : ¬ (pb l[k] = pb l[i] ∧ k ≠ i)), if_neg (show ¬ (decide (pb l[k] = pb l[i]) && (grp l[k].kind == g)) = true by simp [p])]
        simp [cnt]
theorem room_ok {l : List Ob} (h : Wl l) {i : Nat} (hi : i < l.length) : roomE l[i].kind (sibs l (pb l[i]) i l.length) = 0 := by
  have hO := h.ok _ (List.getElem_mem hi)
  have h1 : (sibs l (pb l[i]) i l.length).all kdB = true := List.all_eq_true.2 fun x hx => by
    obtain ⟨o, ho, e⟩ := sibs_mem hx
    rw [← e]; exact kd_of (h.ok o ho)
  have h2 := sibs_cnt hi (grp l[i].kind) l.length (Nat.le_refl _)
  rw [if_pos ⟨hi, rfl⟩, List.take_length] at h2
  have h3 := h.cnt _ (List.getElem_mem hi)
  unfold roomE
  rw [h1, kd_of hO]
  simp only [Bool.and_self, if_true]
  rw [if_neg (by omega)]
/-- What of the object in place i the law asks, of its Ref. -/
theorem ref_ok {l : List Ob} (h : Wl l) {o : Ob} (ho : o ∈ l) (hr : rb o ≠ []) : ∃ t, findO l (rb o) = some t ∧ refersTo o.kind t.kind = true ∧ (∃ d : Bs, climbO (findO l) 8 (hb o) = some d ∧ climbO (findO l) 8 (rb o) = some d ∧ d ≠ []) ∧ (o.kind = 8 → ¬ o.low < t.lo ∧ ¬ t.hi < o.high) := by
  have hk : refersB o.kind = true := by
    cases q : refersB o.kind with
    | true => rfl
    | false => exact absurd ((h.ok o ho).noref q) hr
  obtain ⟨t, e, h2, h3, _⟩ := h.to ho hk
  obtain ⟨d, hd, hdm, _⟩ := mds_some h ho
  refine ⟨t, e, h2, ⟨hb d, hd, ?_, (h.ok d hdm).handle⟩, fun h8 => ?_⟩
  · rw [← (findO_some e).2, ← h3]; exact hd
  · have q := h.lim o ho
    unfold brk6 at q
    rw [e] at q
    have e2 : obO (some t) = t := rfl
    rw [e2] at q
    simp [h8] at q
    omega
end Go.Proofs.YthlalmoapbdccaaDoor.WX
