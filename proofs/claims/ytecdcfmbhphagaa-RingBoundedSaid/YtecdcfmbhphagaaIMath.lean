/-
  PLAIN: rows of texts with numbers, rising by their texts: the place of a text, whether it is there, a row put in and taken out.
-/
import Derived.Test.YtecdcfmbhphagaaHOrder
namespace Go.Proofs.Ytecdcfmbhphagaa.IX
open Go.RowKit HL
set_option linter.unusedVariables false
set_option linter.unusedSimpArgs false

abbrev Rw := Bs × Int
def keys (l : List Rw) : List Bs := l.map (·.1)
def nums (l : List Rw) : List Int := l.map (·.2)
theorem keys_len (l : List Rw) : (keys l).length = l.length := by simp [keys]
theorem nums_len (l : List Rw) : (nums l).length = l.length := by simp [nums]
theorem keys_get {l : List Rw} {i : Nat} (h : i < l.length) : (keys l)[i]? = some l[i].1 := by simp [keys, h]
theorem nums_get {l : List Rw} {i : Nat} (h : i < l.length) : (nums l)[i]? = some l[i].2 := by simp [nums, h]
/-- The rows rise. -/
def Up (l : List Rw) : Prop := Asc (keys l)
/-- How many are less. -/
def plc (l : List Rw) (h : Bs) : Nat := l.countP fun r => decide (r.1 < h)
theorem plc_le (l : List Rw) (h : Bs) : plc l h ≤ l.length := List.countP_le_length
theorem Up.cons {a : Rw} {l : List Rw} : Up (a :: l) ↔ (∀ r ∈ l, a.1 < r.1) ∧ Up l := by
  unfold Up keys Asc
  rw [List.map_cons, List.pairwise_cons]
  simp
theorem plc_none {l : List Rw} {h : Bs} (k : ∀ r ∈ l, ¬ r.1 < h) : plc l h = 0 := by
  unfold plc
  rw [List.countP_eq_zero]
  intro r hr
  simpa using k r hr
theorem plc_iff {l : List Rw} (u : Up l) (h : Bs) : ∀ i (hi : i < l.length), l[i].1 < h ↔ i < plc l h := by
  induction l with
  | nil => intro i hi; simp at hi
  | cons a l ih =>
    obtain ⟨ua, ul⟩ := Up.cons.1 u
    by_cases ha : a.1 < h
    · have e : plc (a :: l) h = plc l h + 1 := by simp [plc, ha]
      intro i hi
      rw [e]
      cases i with
      | zero => simp [ha]
      | succ i =>
        have := ih ul i (by simpa using hi)
        simp only [List.getElem_cons_succ]
        rw [this]; omega
    · have e : plc (a :: l) h = 0 := plc_none fun r hr => by
        rcases List.mem_cons.1 hr with rfl | hr
        · exact ha
        · exact fun q => ha (lt_trans (ua r hr) q)
      intro i hi
      rw [e]
      refine ⟨fun q => absurd q ?_, fun q => absurd q (Nat.not_lt_zero _)⟩
      cases i with
      | zero => exact ha
      | succ i => exact fun q => ha (lt_trans (ua _ (List.getElem_mem _)) q)
theorem plc_lt {l : List Rw} (u : Up l) {h : Bs} {i : Nat} (hi : i < l.length) (k : l[i].1 < h) : i < plc l h := (plc_iff u h i hi).1 k
theorem plc_ge {l : List Rw} (u : Up l) {h : Bs} {i : Nat} (hi : i < l.length) (k : ¬ l[i].1 < h) : plc l h ≤ i := by
  have := mt (plc_iff u h i hi).2 k; omega
theorem plc_at {l : List Rw} (u : Up l) {h : Bs} {p : Nat} (h1 : ∀ i (hi : i < l.length), i < p → l[i].1 < h) (h2 : ∀ i (hi : i < l.length), p ≤ i → ¬ l[i].1 < h) (hp : p ≤ l.length) : plc l h = p := by
  have hl := plc_le l h
  by_cases a : plc l h < p
  · have := plc_lt u (i := plc l h) (by omega) (h1 _ _ a); omega
  · by_cases b : p < plc l h
    · exact absurd ((plc_iff u h p (by omega)).2 b) (h2 p (by omega) (Nat.le_refl _))
    · omega
/-- Is it there? -/
noncomputable def hasB (l : List Rw) (h : Bs) : Bool := @decide (h ∈ keys l) (Classical.propDecidable _)
theorem hasB_iff {l : List Rw} {h : Bs} : hasB l h = true ↔ h ∈ keys l := by simp [hasB]
theorem hasB_f {l : List Rw} {h : Bs} : hasB l h = false ↔ h ∉ keys l := by simp [hasB]
theorem has_at {l : List Rw} (u : Up l) {h : Bs} (k : hasB l h = true) : ∃ hp : plc l h < l.length, l[plc l h].1 = h := by
  obtain ⟨r, hr, rfl⟩ := List.mem_map.1 (hasB_iff.1 k)
  obtain ⟨i, hi, rfl⟩ := List.getElem_of_mem hr
  have h1 : plc l l[i].1 ≤ i := plc_ge u hi (lt_irrefl _)
  have hp : plc l l[i].1 < l.length := by omega
  refine ⟨hp, ?_⟩
  have h2 := mt (plc_iff u l[i].1 _ hp).1 (Nat.lt_irrefl _)
  rcases Nat.lt_or_eq_of_le h1 with q | q
  · have : l[plc l l[i].1].1 < l[i].1 := by
      have := List.pairwise_iff_getElem.1 u (plc l l[i].1) i (by simpa [keys] using hp) (by simpa [keys] using hi) q
      simpa [keys] using this
    exact absurd this h2
  · congr 1; simp only [q]
theorem has_of {l : List Rw} {h : Bs} {i : Nat} (hi : i < l.length) (e : l[i].1 = h) : hasB l h = true := hasB_iff.2 (List.mem_map.2 ⟨l[i], List.getElem_mem hi, e⟩)
theorem has_at_iff {l : List Rw} (u : Up l) {h : Bs} (hp : plc l h < l.length) : hasB l h = true ↔ l[plc l h].1 = h :=
  ⟨fun k => (has_at u k).2, fun e => has_of hp e⟩
theorem has_none {l : List Rw} (u : Up l) {h : Bs} (hp : ¬ plc l h < l.length) : hasB l h = false := by
  cases e : hasB l h with
  | false => rfl
  | true => exact absurd (has_at u e).1 hp
/-- The number of a text, 0 where it isn't there. -/
noncomputable def numOf (l : List Rw) (h : Bs) : Int := if hasB l h = true then (l.getD (plc l h) ([], 0)).2 else 0
theorem numOf_t {l : List Rw} {h : Bs} (k : hasB l h = true) (hp : plc l h < l.length) : numOf l h = l[plc l h].2 := by
  unfold numOf; rw [if_pos k, List.getD_eq_getElem?_getD, List.getElem?_eq_getElem hp]; rfl
theorem numOf_f {l : List Rw} {h : Bs} (k : hasB l h = false) : numOf l h = 0 := by simp [numOf, k]
theorem up_inj {l : List Rw} (u : Up l) {i j : Nat} (hi : i < l.length) (hj : j < l.length) (e : l[i].1 = l[j].1) : i = j := by
  rcases Nat.lt_trichotomy i j with q | q | q
  · have := List.pairwise_iff_getElem.1 u i j (by simpa [keys] using hi) (by simpa [keys] using hj) q
    simp [keys, e] at this; exact absurd this (lt_irrefl _)
  · exact q
  · have := List.pairwise_iff_getElem.1 u j i (by simpa [keys] using hj) (by simpa [keys] using hi) q
    simp [keys, e] at this; exact absurd this (lt_irrefl _)
theorem numOf_at {l : List Rw} (u : Up l) {i : Nat} (hi : i < l.length) : numOf l l[i].1 = l[i].2 := by
  have k : hasB l l[i].1 = true := has_of hi rfl
  obtain ⟨hp, e⟩ := has_at u k
  rw [numOf_t k hp]
  have := up_inj u hp hi e
  simp only [this]
theorem plc_self {l : List Rw} (u : Up l) {i : Nat} (hi : i < l.length) : plc l l[i].1 = i := by
  obtain ⟨hp, e⟩ := has_at u (has_of hi rfl : hasB l l[i].1 = true)
  exact up_inj u hp hi e
/-- A row put in at its place; a text taken out. -/
def ins (l : List Rw) (h : Bs) (n : Int) : List Rw := l.take (plc l h) ++ (h, n) :: l.drop (plc l h)
def del (l : List Rw) (h : Bs) : List Rw := l.take (plc l h) ++ l.drop (plc l h + 1)
theorem ins_len (l : List Rw) (h : Bs) (n : Int) : (ins l h n).length = l.length + 1 := by
  have := plc_le l h
  simp [ins]; omega
theorem del_len {l : List Rw} {h : Bs} (hp : plc l h < l.length) : (del l h).length = l.length - 1 := by
  simp [del]; omega
theorem take_all_lt {l : List Rw} (u : Up l) {h : Bs} {r : Rw} (hr : r ∈ l.take (plc l h)) : r.1 < h := by
  obtain ⟨i, hi, rfl⟩ := List.getElem_of_mem hr
  simp only [List.length_take] at hi
  rw [List.getElem_take]
  exact (plc_iff u h i (by omega)).2 (by omega)
theorem drop_all_ge {l : List Rw} (u : Up l) {h : Bs} {r : Rw} (hr : r ∈ l.drop (plc l h)) : ¬ r.1 < h := by
  obtain ⟨i, hi, rfl⟩ := List.getElem_of_mem hr
  simp only [List.length_drop] at hi
  rw [List.getElem_drop]
  exact fun q => absurd ((plc_iff u h _ (by omega)).1 q) (by omega)
theorem up_take {l : List Rw} (u : Up l) (k : Nat) : Up (l.take k) := by
  unfold Up keys at *; rw [List.map_take]; exact List.Pairwise.sublist (List.take_sublist _ _) u
theorem up_drop {l : List Rw} (u : Up l) (k : Nat) : Up (l.drop k) := by
  unfold Up keys at *; rw [List.map_drop]; exact List.Pairwise.sublist (List.drop_sublist _ _) u
theorem up_del {l : List Rw} (u : Up l) (h : Bs) : Up (del l h) := by
  have : (del l h).Sublist l := by
    have e : l = l.take (plc l h) ++ l.drop (plc l h) := (List.take_append_drop _ _).symm
    conv => rhs; rw [e]
    exact List.Sublist.append (List.Sublist.refl _) (by rw [← List.drop_drop]; exact List.drop_sublist _ _)
  unfold Up keys at *
  exact List.Pairwise.sublist (this.map _) u
theorem up_ins {l : List Rw} (u : Up l) {h : Bs} (n : Int) (k : hasB l h = false) : Up (ins l h n) := by
  have hk := hasB_f.1 k
  have key : ∀ r ∈ l.drop (plc l h), h < r.1 := fun r hr => by
    rcases tri h r.1 with q | q | q
    · exact q
    · exact absurd (List.mem_map.2 ⟨r, List.mem_of_mem_drop hr, q.symm⟩) hk
    · exact absurd q (drop_all_ge u hr)
  have u1 := up_take u (plc l h)
  have u2 := up_drop u (plc l h)
  unfold Up keys ins at *
  rw [List.map_append, List.map_cons]
  refine List.pairwise_append.2 ⟨u1, List.pairwise_cons.2 ⟨fun y hy => ?_, u2⟩, fun a ha b hb => ?_⟩
  · obtain ⟨r, hr, rfl⟩ := List.mem_map.1 hy
    exact key r hr
  · obtain ⟨r, hr, rfl⟩ := List.mem_map.1 ha
    have h1 := take_all_lt u hr
    rcases List.mem_cons.1 hb with q | q
    · rw [q]; exact h1
    · obtain ⟨s, hs, rfl⟩ := List.mem_map.1 q
      exact lt_trans h1 (key s hs)
theorem mem_ins {l : List Rw} {h : Bs} {n : Int} {r : Rw} : r ∈ ins l h n ↔ r = (h, n) ∨ r ∈ l := by
  unfold ins
  rw [List.mem_append, List.mem_cons]
  constructor
  · rintro (q | q | q)
    · exact .inr (List.mem_of_mem_take q)
    · exact .inl q
    · exact .inr (List.mem_of_mem_drop q)
  · rintro (q | q)
    · exact .inr (.inl q)
    · have : r ∈ l.take (plc l h) ++ l.drop (plc l h) := by rw [List.take_append_drop]; exact q
      rcases List.mem_append.1 this with q | q
      · exact .inl q
      · exact .inr (.inr q)
theorem mem_of_del {l : List Rw} {h : Bs} {r : Rw} (k : r ∈ del l h) : r ∈ l := by
  rcases List.mem_append.1 k with q | q
  · exact List.mem_of_mem_take q
  · exact List.mem_of_mem_drop q
theorem mem_del {l : List Rw} (u : Up l) {h : Bs} (k : hasB l h = true) {r : Rw} : r ∈ del l h ↔ r ∈ l ∧ r.1 ≠ h := by
  obtain ⟨hp, e⟩ := has_at u k
  have hd : l.drop (plc l h) = l[plc l h] :: l.drop (plc l h + 1) := List.drop_eq_getElem_cons hp
  constructor
  · intro q
    refine ⟨mem_of_del q, fun e2 => ?_⟩
    rcases List.mem_append.1 q with q | q
    · have := take_all_lt u q; rw [e2] at this; exact lt_irrefl _ this
    · have u2 := up_drop u (plc l h)
      rw [hd] at u2
      have := (Up.cons.1 u2).1 r q
      rw [e, e2] at this; exact lt_irrefl _ this
  · rintro ⟨q, e2⟩
    have : r ∈ l.take (plc l h) ++ l.drop (plc l h) := by rw [List.take_append_drop]; exact q
    rcases List.mem_append.1 this with q | q
    · exact List.mem_append.2 (.inl q)
    · rw [hd] at q
      rcases List.mem_cons.1 q with q | q
      · rw [q] at e2; exact absurd e e2
      · exact List.mem_append.2 (.inr q)
/-- At a place. -/
def inB (l : List Rw) (i : Int) : Bool := decide (0 ≤ i) && decide (i < l.length)
def atH (l : List Rw) (i : Int) : Bs := if inB l i = true then (l.getD i.toNat ([], 0)).1 else []
def atN (l : List Rw) (i : Int) : Int := if inB l i = true then (l.getD i.toNat ([], 0)).2 else 0
theorem inB_nat (l : List Rw) (i : Nat) (h : i < l.length) : inB l i = true := by simp [inB]; omega
theorem at_nat {l : List Rw} {i : Nat} (h : i < l.length) : atH l i = l[i].1 ∧ atN l i = l[i].2 := by
  simp [atH, atN, inB_nat l i h, h]
end Go.Proofs.Ytecdcfmbhphagaa.IX
