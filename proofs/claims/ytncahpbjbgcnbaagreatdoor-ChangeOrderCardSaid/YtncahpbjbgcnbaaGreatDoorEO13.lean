/-
  PLAIN: sorting objects by their handles, those of one handle as they stood: each with its place; what is sorted so is one list alone.
-/
import Derived.Test.YtncahpbjbgcnbaaGreatDoorEO2
import Derived.Test.YtncahpbjbgcnbaaGreatDoorEO0
namespace Go.Proofs.YtncahpbjbgcnbaaGreatDoor.KX
open Go.RowKit HL
open WX (hb)
set_option maxRecDepth 100000
set_option linter.unusedVariables false
set_option linter.unusedSimpArgs false

/-- An object and where it stood. -/
abbrev Tg := Ob × Nat
def lex (p q : Tg) : Prop := hb p.1 < hb q.1 ∨ (hb p.1 = hb q.1 ∧ p.2 < q.2)
theorem lex_irr (p : Tg) : ¬ lex p p := fun h => by
  rcases h with h | ⟨_, h⟩
  · exact HL.lt_irrefl _ h
  · omega
theorem lex_trans {p q r : Tg} (h : lex p q) (k : lex q r) : lex p r := by
  rcases h with h | ⟨h1, h2⟩ <;> rcases k with k | ⟨k1, k2⟩
  · exact .inl (HL.lt_trans h k)
  · exact .inl (by rw [← k1]; exact h)
  · exact .inl (by rw [h1]; exact k)
  · exact .inr ⟨h1.trans k1, by omega⟩
theorem lex_asymm {p q : Tg} (h : lex p q) : ¬ lex q p := fun k => lex_irr p (lex_trans h k)
theorem lex_tri {p q : Tg} (h : p.2 ≠ q.2) : lex p q ∨ lex q p := by
  rcases HL.tri (hb p.1) (hb q.1) with g | g | g
  · exact .inl (.inl g)
  · rcases Nat.lt_or_gt_of_ne h with t | t
    · exact .inl (.inr ⟨g, t⟩)
    · exact .inr (.inr ⟨g.symm, t⟩)
  · exact .inr (.inl g)
/-- Of what stood behind, less is less by the handle alone. -/
theorem lex_behind {p q : Tg} (h : q.2 < p.2) : lex p q ↔ hb p.1 < hb q.1 :=
  ⟨fun k => k.elim id fun k => absurd k.2 (by omega), .inl⟩
theorem lex_front {p q : Tg} (h : p.2 < q.2) : lex p q ↔ ¬ hb q.1 < hb p.1 := by
  constructor
  · intro k g
    exact lex_asymm k (.inl g)
  · intro k
    rcases HL.tri (hb p.1) (hb q.1) with g | g | g
    · exact .inl g
    · exact .inr ⟨g, h⟩
    · exact absurd g k
def Up (T : List Tg) : Prop := T.Pairwise lex
/-- What is sorted so is one list alone. -/
theorem up_uniq {S T : List Tg} (h : S.Perm T) (hs : Up S) (ht : Up T) : S = T :=
  List.Perm.eq_of_pairwise (fun a b _ _ h1 h2 => absurd h2 (lex_asymm h1)) hs ht h
theorem up_app {S T : List Tg} : Up (S ++ T) ↔ Up S ∧ Up T ∧ ∀ p ∈ S, ∀ q ∈ T, lex p q := List.pairwise_append
theorem up_one (p : Tg) : Up [p] := List.pairwise_singleton _ _
theorem up_nil : Up [] := List.Pairwise.nil
/-- The places of the one are ahead of the other's. -/
def Ahead (S T : List Tg) : Prop := ∀ p ∈ S, ∀ q ∈ T, p.2 < q.2
/-- Two places of a row changed. -/
theorem swap_at {α : Type} (A B C : List α) (x y : α) (p q : Nat) (hp : A.length = p) (hq : A.length + 1 + B.length = q) :
    ((A ++ x :: B ++ y :: C).set p y).set q x = A ++ y :: B ++ x :: C := by
  subst hp hq
  rw [List.append_assoc, List.set_append_right _ _ (Nat.le_refl _), Nat.sub_self, List.cons_append, List.set_cons_zero,
    List.set_append_right _ _ (by omega), show A.length + 1 + B.length - A.length = B.length + 1 by omega, List.set_cons_succ,
    List.set_append_right _ _ (Nat.le_refl _), Nat.sub_self, List.set_cons_zero, List.append_assoc, List.cons_append]
/-- The one behind changed with the one ahead of it. -/
theorem swap_at' {α : Type} (A B C : List α) (x y : α) (p q : Nat) (hp : A.length = p) (hq : A.length + 1 + B.length = q) :
    ((A ++ x :: B ++ y :: C).set q x).set p y = A ++ y :: B ++ x :: C := by
  rw [List.set_comm _ _ (by omega)]
  exact swap_at A B C x y p q hp hq
theorem get_1 {α : Type} (A B C : List α) (x y : α) (p : Nat) (hp : A.length = p) : (A ++ x :: B ++ y :: C)[p]? = some x := by
  subst hp
  rw [List.append_assoc, List.getElem?_append_right (Nat.le_refl _), Nat.sub_self]; rfl
theorem get_2 {α : Type} (A B C : List α) (x y : α) (q : Nat) (hq : A.length + 1 + B.length = q) : (A ++ x :: B ++ y :: C)[q]? = some y := by
  subst hq
  rw [List.getElem?_append_right (by simp; omega)]
  have e : A.length + 1 + B.length - (A ++ x :: B).length = 0 := by simp; omega
  rw [e]; rfl
/-- A sorted row parted where what is less than x ends. -/
theorem part_up {Y : List Tg} (hY : Up Y) (x : Tg) (hx : ∀ y ∈ Y, y.2 ≠ x.2) : ∃ Y1 Y2, Y = Y1 ++ Y2 ∧ (∀ y ∈ Y1, lex y x) ∧ ∀ y ∈ Y2, lex x y := by
  induction Y with
  | nil => exact ⟨[], [], rfl, fun _ h => (by cases h), fun _ h => (by cases h)⟩
  | cons y Y ih =>
    have h1 := List.pairwise_cons.1 hY
    rcases lex_tri (hx y (List.mem_cons_self ..)) with g | g
    · obtain ⟨Y1, Y2, e, a, b⟩ := ih h1.2 (fun z hz => hx z (List.mem_cons_of_mem _ hz))
      refine ⟨y :: Y1, Y2, by rw [e]; rfl, fun z hz => ?_, b⟩
      rcases List.mem_cons.1 hz with rfl | hz
      · exact g
      · exact a z hz
    · refine ⟨[], y :: Y, rfl, fun _ h => (by cases h), fun z hz => ?_⟩
      rcases List.mem_cons.1 hz with rfl | hz
      · exact g
      · exact lex_trans g (h1.1 z hz)
theorem up_mid {Y1 Y2 : List Tg} {x : Tg} (h : Up (Y1 ++ Y2)) (h1 : ∀ y ∈ Y1, lex y x) (h2 : ∀ y ∈ Y2, lex x y) : Up (Y1 ++ x :: Y2) := by
  obtain ⟨a, b, c⟩ := up_app.1 h
  refine up_app.2 ⟨a, List.pairwise_cons.2 ⟨h2, b⟩, fun p hp q hq => ?_⟩
  rcases List.mem_cons.1 hq with rfl | hq
  · exact h1 p hp
  · exact c p hp q hq
/-- Two halves, sorted apart, all of the one less than all of the other. -/
theorem up_join {A A' B B' : List Tg} (pa : A.Perm A') (pb : B.Perm B') (ha : Up A') (hb' : Up B') (h : ∀ p ∈ A, ∀ q ∈ B, lex p q) : Up (A' ++ B') :=
  up_app.2 ⟨ha, hb', fun p hp q hq => h p (pa.mem_iff.2 hp) q (pb.mem_iff.2 hq)⟩
end Go.Proofs.YtncahpbjbgcnbaaGreatDoor.KX
/-
  PLAIN: two sorted halves, cut so that what is ahead of the cuts is less than what is behind: symMerge's step.
-/
namespace Go.Proofs.YtncahpbjbgcnbaaGreatDoor.KX
open Go.RowKit HL
open WX (hb)
set_option maxRecDepth 100000
set_option linter.unusedVariables false
set_option linter.unusedSimpArgs false

theorem up_get {T : List Tg} (h : Up T) {i j : Nat} {p q : Tg} (hij : i < j) (hp : T[i]? = some p) (hq : T[j]? = some q) : lex p q := by
  obtain ⟨h1, rfl⟩ := List.getElem?_eq_some_iff.1 hp
  obtain ⟨h2, rfl⟩ := List.getElem?_eq_some_iff.1 hq
  exact List.pairwise_iff_getElem.1 h i j h1 h2 hij
/-- The object at place i of the first half is not behind its partner in the second one. -/
def Fit (X Y : List Tg) (h i : Nat) : Prop := ∀ x y, X[i]? = some x → Y[h - 1 - i]? = some y → lex x y
theorem fit_iff {X Y : List Tg} (ha : Ahead X Y) {h i : Nat} {x y : Tg} (hx : X[i]? = some x) (hy : Y[h - 1 - i]? = some y) : Fit X Y h i ↔ ¬ hb y.1 < hb x.1 := by
  have h1 := ha x (List.mem_of_getElem? hx) y (List.mem_of_getElem? hy)
  rw [← lex_front h1]
  constructor
  · intro f; exact f x y hx hy
  · intro k x' y' hx' hy'
    rw [hx] at hx'
    rw [hy] at hy'
    cases hx'
    cases hy'
    exact k
theorem fit_down {X Y : List Tg} (hX : Up X) (hY : Up Y) {h i c : Nat} {xc yc : Tg} (hc : c < h) (hic : i ≤ c) (hxc : X[c]? = some xc) (hyc : Y[h - 1 - c]? = some yc) (f : Fit X Y h c) : Fit X Y h i := by
  intro x y hx hy
  have h0 := f xc yc hxc hyc
  by_cases e : i = c
  · subst e
    rw [hx] at hxc
    rw [hy] at hyc
    cases hxc
    cases hyc
    exact h0
  · have h1 := up_get hX (by omega) hx hxc
    have h2 := up_get hY (show h - 1 - c < h - 1 - i by omega) hyc hy
    exact lex_trans h1 (lex_trans h0 h2)
theorem fit_up {X Y : List Tg} (hX : Up X) (hY : Up Y) {h i c : Nat} {x y : Tg} (hi : i < h) (hic : c ≤ i) (hx : X[i]? = some x) (hy : Y[h - 1 - i]? = some y) {xc yc : Tg} (hxc : X[c]? = some xc) (hyc : Y[h - 1 - c]? = some yc) (f : ¬ Fit X Y h c) : ¬ Fit X Y h i := fun g => f (fit_down hX hY hi hic hx hy g)
/-- Where the cut lies. -/
structure Cut (X Y : List Tg) (h lo hi s : Nat) : Prop where
  ge : lo ≤ s
  le : s ≤ hi
  low : ∀ i, lo ≤ i → i < s → Fit X Y h i
  high : ∀ i, s ≤ i → i < hi → ¬ Fit X Y h i
theorem cut_less {X Y : List Tg} (hX : Up X) (hY : Up Y) (ha : Ahead X Y) {h lo hi s : Nat} (c : Cut X Y h lo hi s) (hlo : lo = 0 ∨ lo + Y.length = h) (hhi : hi = X.length ∨ hi = h) (hx : hi ≤ X.length) (hh : hi ≤ h) (hy : h ≤ lo + Y.length) :
    (∀ p ∈ X.take s, ∀ q ∈ Y.drop (h - s), lex p q) ∧ ∀ p ∈ Y.take (h - s), ∀ q ∈ X.drop s, lex p q := by
  have h1 := c.ge
  have h2 := c.le
  constructor
  · intro p hp q hq
    obtain ⟨i, hi', rfl⟩ := List.getElem_of_mem hp
    obtain ⟨j, hj', rfl⟩ := List.getElem_of_mem hq
    rw [List.length_take] at hi'
    rw [List.length_drop] at hj'
    rw [List.getElem_take, List.getElem_drop]
    have hs : lo ≤ s - 1 := by
      rcases hlo with e | e
      · omega
      · omega
    have f := c.low (s - 1) hs (by omega)
    have hxs : X[s - 1]? = some (X[s - 1]'(by omega)) := List.getElem?_eq_getElem (by omega)
    have hys : Y[h - 1 - (s - 1)]? = some (Y[h - 1 - (s - 1)]'(by omega)) := List.getElem?_eq_getElem (by omega)
    have f1 := f _ _ hxs hys
    have f2 : lex (X[i]'(by omega)) (Y[h - 1 - (s - 1)]'(by omega)) := by
      by_cases e : i = s - 1
      · subst e; exact f1
      · exact lex_trans (up_get hX (show i < s - 1 by omega) (List.getElem?_eq_getElem (by omega)) hxs) f1
    by_cases e : j = 0
    · subst e
      have : h - s + 0 = h - 1 - (s - 1) := by omega
      simp only [this]
      exact f2
    · exact lex_trans f2 (up_get hY (show h - 1 - (s - 1) < h - s + j by omega) hys (List.getElem?_eq_getElem (by omega)))
  · intro p hp q hq
    obtain ⟨i, hi', rfl⟩ := List.getElem_of_mem hp
    obtain ⟨j, hj', rfl⟩ := List.getElem_of_mem hq
    rw [List.length_take] at hi'
    rw [List.length_drop] at hj'
    rw [List.getElem_take, List.getElem_drop]
    have hs : s < hi := by
      rcases hhi with e | e <;> omega
    have f := c.high s (Nat.le_refl _) hs
    have hxs : X[s]? = some (X[s]'(by omega)) := List.getElem?_eq_getElem (by omega)
    have hys : Y[h - 1 - s]? = some (Y[h - 1 - s]'(by omega)) := List.getElem?_eq_getElem (by omega)
    rw [fit_iff ha hxs hys, Classical.not_not] at f
    have f1 : lex (Y[h - 1 - s]'(by omega)) (X[s]'(by omega)) := .inl f
    have f2 : lex (Y[i]'(by omega)) (X[s]'(by omega)) := by
      by_cases e : i = h - 1 - s
      · subst e; exact f1
      · exact lex_trans (up_get hY (show i < h - 1 - s by omega) (List.getElem?_eq_getElem (by omega)) hys) f1
    by_cases e : j = 0
    · subst e
      exact f2
    · exact lex_trans f2 (up_get hX (show s < s + j by omega) hxs (List.getElem?_eq_getElem (by omega)))
/-- The step's sum: both halves of what is cut sorted, all is. -/
theorem merge_step {X Y U V : List Tg} {h s : Nat} (hu : (X.take s ++ Y.take (h - s)).Perm U) (hv : (X.drop s ++ Y.drop (h - s)).Perm V) (uu : Up U) (uv : Up V) (hX : Up X) (hY : Up Y)
    (h1 : ∀ p ∈ X.take s, ∀ q ∈ Y.drop (h - s), lex p q) (h2 : ∀ p ∈ Y.take (h - s), ∀ q ∈ X.drop s, lex p q) : Up (U ++ V) ∧ (X ++ Y).Perm (U ++ V) := by
  have eX : X.take s ++ X.drop s = X := List.take_append_drop s X
  have eY : Y.take (h - s) ++ Y.drop (h - s) = Y := List.take_append_drop _ Y
  have x1 := (up_app.1 (eX ▸ hX)).2.2
  have y1 := (up_app.1 (eY ▸ hY)).2.2
  refine ⟨up_join hu hv uu uv fun p hp q hq => ?_, ?_⟩
  · rcases List.mem_append.1 hp with a | a <;> rcases List.mem_append.1 hq with b | b
    · exact x1 p a q b
    · exact h1 p a q b
    · exact h2 p a q b
    · exact y1 p a q b
  · refine List.Perm.trans ?_ (hu.append hv)
    conv => lhs; rw [← eX, ← eY]
    simp only [List.append_assoc]
    refine List.Perm.append_left _ ?_
    rw [← List.append_assoc, ← List.append_assoc]
    exact List.Perm.append_right _ List.perm_append_comm
end Go.Proofs.YtncahpbjbgcnbaaGreatDoor.KX
/-
  PLAIN: the binary search of symMerge.
-/
namespace Go.Proofs.YtncahpbjbgcnbaaGreatDoor.KX
open Go.RowKit HL
open WX (hb)
set_option maxRecDepth 100000
set_option linter.unusedVariables false
set_option linter.unusedSimpArgs false

/-- The bounds of the search. -/
structure Bnd (X Y : List Tg) (h lo hi : Nat) : Prop where
  lo_ : lo = 0 ∨ lo + Y.length = h
  hi_ : hi = X.length ∨ hi = h
  x : hi ≤ X.length
  h_ : hi ≤ h
  y : h ≤ lo + Y.length
  le : lo ≤ hi
/-- How far the search has come. -/
structure Find (X Y : List Tg) (h lo hi s t : Nat) : Prop where
  ge : lo ≤ s
  st : s ≤ t
  le : t ≤ hi
  low : ∀ i, lo ≤ i → i < s → Fit X Y h i
  high : ∀ i, t ≤ i → i < hi → ¬ Fit X Y h i
theorem Find.start {X Y : List Tg} {h lo hi : Nat} (b : Bnd X Y h lo hi) : Find X Y h lo hi lo hi :=
  ⟨Nat.le_refl _, b.le, Nat.le_refl _, fun _ _ _ => by omega, fun _ _ _ => by omega⟩
theorem Find.right {X Y : List Tg} {h lo hi s t c : Nat} {x y : Tg} (f : Find X Y h lo hi s t) (b : Bnd X Y h lo hi) (hX : Up X) (hY : Up Y) (hs : s ≤ c) (ht : c < t) (hx : X[c]? = some x) (hy : Y[h - 1 - c]? = some y) (k : Fit X Y h c) : Find X Y h lo hi (c + 1) t := by
  have h1 := b.h_
  have h2 := f.le
  have h3 := f.ge
  refine ⟨by omega, by omega, f.le, fun i h4 h5 => ?_, f.high⟩
  exact fit_down hX hY (by omega) (show i ≤ c by omega) hx hy k
theorem Find.left {X Y : List Tg} {h lo hi s t c : Nat} {x y : Tg} (f : Find X Y h lo hi s t) (b : Bnd X Y h lo hi) (hX : Up X) (hY : Up Y) (hs : s ≤ c) (ht : c < t) (hx : X[c]? = some x) (hy : Y[h - 1 - c]? = some y) (k : ¬ Fit X Y h c) : Find X Y h lo hi s c := by
  have h1 := b.h_
  have h2 := f.le
  have h3 := f.ge
  have h4 := b.x
  have h5 := b.y
  refine ⟨f.ge, hs, by omega, f.low, fun i h6 h7 => ?_⟩
  exact fit_up hX hY (by omega) h6 (List.getElem?_eq_getElem (show i < X.length by omega)) (List.getElem?_eq_getElem (show h - 1 - i < Y.length by omega)) hx hy k
theorem Find.cut {X Y : List Tg} {h lo hi s : Nat} (f : Find X Y h lo hi s s) : Cut X Y h lo hi s := ⟨f.ge, f.le, f.low, f.high⟩
/-- Where the middle lies. -/
theorem bnd_gt {X Y : List Tg} {h : Nat} (h1 : h < X.length) (h2 : 2 * h ≤ X.length + Y.length) (h3 : X.length + Y.length ≤ 2 * h + 1) : Bnd X Y h (h - Y.length) h :=
  ⟨by omega, .inr rfl, by omega, Nat.le_refl _, by omega, by omega⟩
theorem bnd_le {X Y : List Tg} {h : Nat} (h1 : X.length ≤ h) (h2 : 2 * h ≤ X.length + Y.length) (h3 : X.length + Y.length ≤ 2 * h + 1) : Bnd X Y h 0 X.length :=
  ⟨.inl rfl, .inl rfl, Nat.le_refl _, h1, by omega, by omega⟩
/-- What the search has found, said all at once. -/
structure Found (X Y : List Tg) (h s : Nat) : Prop where
  sx : s ≤ X.length
  sh : s ≤ h
  hy : h - s ≤ Y.length
  one : ∀ p ∈ X.take s, ∀ q ∈ Y.drop (h - s), lex p q
  two : ∀ p ∈ Y.take (h - s), ∀ q ∈ X.drop s, lex p q
theorem Find.found {X Y : List Tg} {h lo hi s : Nat} (f : Find X Y h lo hi s s) (b : Bnd X Y h lo hi) (hX : Up X) (hY : Up Y) (ha : Ahead X Y) : Found X Y h s := by
  have c := cut_less hX hY ha f.cut b.lo_ b.hi_ b.x b.h_ b.y
  have h1 := f.ge
  have h2 := f.le
  have h3 := b.x
  have h4 := b.h_
  have h5 := b.y
  exact ⟨by omega, by omega, by omega, c.1, c.2⟩
theorem ahead_cut {X Y : List Tg} (ha : Ahead X Y) (s t : Nat) : Ahead (X.take s) (Y.take t) ∧ Ahead (X.drop s) (Y.drop t) :=
  ⟨fun p hp q hq => ha p (List.mem_of_mem_take hp) q (List.mem_of_mem_take hq), fun p hp q hq => ha p (List.mem_of_mem_drop hp) q (List.mem_of_mem_drop hq)⟩
theorem up_take {X : List Tg} (h : Up X) (s : Nat) : Up (X.take s) ∧ Up (X.drop s) := by
  have := up_app.1 ((List.take_append_drop s X).symm ▸ h)
  exact ⟨this.1, this.2.1⟩
end Go.Proofs.YtncahpbjbgcnbaaGreatDoor.KX
/-
  PLAIN: rows of blocks, each sorted: what the library's stable sort holds between its rounds.
-/
namespace Go.Proofs.YtncahpbjbgcnbaaGreatDoor.KX
open Go.RowKit HL
open WX (hb)
set_option maxRecDepth 100000
set_option linter.unusedVariables false
set_option linter.unusedSimpArgs false

/-- The numbers rise. -/
abbrev Inc (T : List Tg) : Prop := T.Pairwise (fun p q => p.2 < q.2)
/-- One stretch: what stood there (p.1), sorted (p.2). -/
structure Blk (bs : Nat) (p : List Tg × List Tg) : Prop where
  len : p.2.length = bs
  perm : p.1.Perm p.2
  up : Up p.2
abbrev fst_ (B : List (List Tg × List Tg)) : List Tg := (B.map Prod.fst).flatten
abbrev snd_ (B : List (List Tg × List Tg)) : List Tg := (B.map Prod.snd).flatten
/-- Whole blocks, and the last one. -/
structure Runs (bs : Nat) (B : List (List Tg × List Tg)) (E : List Tg × List Tg) (T0 T : List Tg) : Prop where
  blk : ∀ p ∈ B, Blk bs p
  short : E.2.length < bs
  perm : E.1.Perm E.2
  up : Up E.2
  t0 : T0 = fst_ B ++ E.1
  t : T = snd_ B ++ E.2
theorem snd_length {bs : Nat} : ∀ {B : List (List Tg × List Tg)}, (∀ p ∈ B, Blk bs p) → (snd_ B).length = B.length * bs
  | [], _ => by simp
  | p :: B, h => by
    have h1 := (h p (List.mem_cons_self ..)).len
    have h2 := snd_length (fun q hq => h q (List.mem_cons_of_mem _ hq))
    simp only [snd_, List.map_cons, List.flatten_cons, List.length_append, List.length_cons] at h2 ⊢
    rw [h1, h2, Nat.succ_mul, Nat.add_comm]
theorem fs_perm {bs : Nat} : ∀ {B : List (List Tg × List Tg)}, (∀ p ∈ B, Blk bs p) → (fst_ B).Perm (snd_ B)
  | [], _ => List.Perm.refl _
  | p :: B, h => by
    have h1 := (h p (List.mem_cons_self ..)).perm
    have h2 := fs_perm (fun q hq => h q (List.mem_cons_of_mem _ hq))
    simpa only [fst_, snd_, List.map_cons, List.flatten_cons] using h1.append h2
theorem Runs.all {bs : Nat} {B : List (List Tg × List Tg)} {E : List Tg × List Tg} {T0 T : List Tg} (h : Runs bs B E T0 T) : T0.Perm T := by
  rw [h.t0, h.t]
  exact (fs_perm h.blk).append h.perm
/-- One block alone: the row is sorted. -/
theorem Runs.one {bs : Nat} {B : List (List Tg × List Tg)} {E : List Tg × List Tg} {T0 T : List Tg} (h : Runs bs B E T0 T) (hl : T.length ≤ bs) (hb : 0 < bs) : Up T := by
  have h1 := snd_length h.blk
  have h2 := h.t
  cases B with
  | nil => rw [h2]; simpa [snd_] using h.up
  | cons p B =>
    have h3 : T.length = (B.length + 1) * bs + E.2.length := by rw [h2, List.length_append, h1]; simp
    have h4 : B.length * bs = 0 := by rw [Nat.succ_mul] at h3; omega
    have h5 : B = [] := by
      rcases Nat.mul_eq_zero.1 h4 with z | z
      · exact List.eq_nil_of_length_eq_zero z
      · omega
    subst h5
    have h6 : E.2 = [] := List.eq_nil_of_length_eq_zero (by simp at h3; omega)
    rw [h2, h6]
    simpa [snd_] using (h.blk p (List.mem_cons_self ..)).up
/-- Of two stretches that follow one another the numbers of the one are ahead of the other's, however they are sorted. -/
theorem ahead_of {A D S0 S1 S T : List Tg} (h : Inc (A ++ S0 ++ S1 ++ D)) (p : S0.Perm S) (q : S1.Perm T) : Ahead S T := by
  intro x hx y hy
  have h1 := (List.pairwise_append.1 (List.pairwise_append.1 h).1).2.2
  exact h1 x (List.mem_append_right _ (p.mem_iff.2 hx)) y (q.mem_iff.2 hy)
theorem fst_snoc (B : List (List Tg × List Tg)) (p : List Tg × List Tg) : fst_ (B ++ [p]) = fst_ B ++ p.1 := by simp [fst_]
theorem snd_snoc (B : List (List Tg × List Tg)) (p : List Tg × List Tg) : snd_ (B ++ [p]) = snd_ B ++ p.2 := by simp [snd_]
theorem blk_snoc {bs : Nat} {B : List (List Tg × List Tg)} {p : List Tg × List Tg} (h : ∀ q ∈ B, Blk bs q) (hp : Blk bs p) : ∀ q ∈ B ++ [p], Blk bs q := fun q hq => by
  rcases List.mem_append.1 hq with k | k
  · exact h q k
  · obtain rfl : q = p := by simpa using k
    exact hp
theorem inc_mid {A S R : List Tg} (h : Inc (A ++ (S ++ R))) : Inc S := (List.pairwise_append.1 (List.pairwise_append.1 h).2.1).1
theorem fs_length {bs : Nat} {B : List (List Tg × List Tg)} (h : ∀ p ∈ B, Blk bs p) : (fst_ B).length = (snd_ B).length := (fs_perm h).length_eq
end Go.Proofs.YtncahpbjbgcnbaaGreatDoor.KX
