/-
  PLAIN: a ring in memory: its block of 156 cells, rows of a version and an entry.
-/
import Derived.Test.YtecdcfmbhphagaaBMath
namespace Go.Proofs.Ytecdcfmbhphagaa.BX
open Go.RowKit HL
open IX (ptr El cellsK cellsK_at cellsK_len OwnK RdK Kept)
set_option maxRecDepth 100000
set_option linter.unusedVariables false
set_option linter.unusedSimpArgs false

/-- A row's cells: the version, the entry. -/
abbrev rowC (x : Int × En) : Array Value := #[.int .i64 x.1, .string x.2.handle, .bool x.2.there, .string x.2.o.handle, .int .u8 x.2.o.kind, .string x.2.o.parent, .int .u8 x.2.o.typ, .string x.2.o.ref, .int .i64 x.2.o.lo, .int .i64 x.2.o.hi, .int .u8 x.2.o.digits, .bool x.2.o.on, .bool x.2.o.has, .int .i64 x.2.o.value, .int .i64 x.2.o.low, .int .i64 x.2.o.high, .int .u8 x.2.o.assoc, .int .i64 x.2.desc, .int .i64 x.2.state]
def rowL (x : Int × En) : List Value := (rowC x).toList
theorem rowL_len (x : Int × En) : (rowL x).length = 19 := rfl
theorem rowL_one (x : Int × En) : ∀ u ∈ rowL x, u.oneCell' = true := fun u hu => by
  simp [rowL] at hu; rcases hu with rfl | rfl | rfl | rfl | rfl | rfl | rfl | rfl | rfl | rfl | rfl | rfl | rfl | rfl | rfl | rfl | rfl | rfl | rfl <;> rfl
def hdL (p : Value) (h : ByteArray) (s n : Nat) : List Value := [p, .string h, .int .i64 s, .int .i64 n]
def rgL (p : Value) (h : ByteArray) (s n : Nat) (R : List (Int × En)) : List Value := hdL p h s n ++ R.flatMap rowL
theorem rows_len (R : List (Int × En)) : (R.flatMap rowL).length = R.length * 19 := by
  induction R with
  | nil => rfl
  | cons x R ih => rw [List.flatMap_cons, List.length_append, ih, rowL_len, List.length_cons]; omega
theorem rgL_len (p : Value) (h : ByteArray) (s n : Nat) (R : List (Int × En)) : (rgL p h s n R).length = 4 + R.length * 19 := by
  unfold rgL; rw [List.length_append, rows_len]; rfl
theorem rgL_one (p : Value) (hp : p.oneCell' = true) (h : ByteArray) (s n : Nat) (R : List (Int × En)) : ∀ u ∈ rgL p h s n R, u.oneCell' = true := by
  intro u hu
  rcases List.mem_append.1 hu with hu | hu
  · simp [hdL] at hu; rcases hu with rfl | rfl | rfl | rfl <;> first | exact hp | rfl
  · obtain ⟨x, _, hx⟩ := List.mem_flatMap.1 hu
    exact rowL_one x u hx
theorem rows_at {R : List (Int × En)} : ∀ {k : Nat} {x : Int × En} {j : Nat} {u : Value}, R[k]? = some x → (rowL x)[j]? = some u → (R.flatMap rowL)[k * 19 + j]? = some u := by
  induction R with
  | nil => intro k x j u h; simp at h
  | cons y R ih =>
    intro k x j u h hu
    have hj : j < 19 := by have := (List.getElem?_eq_some_iff.1 hu).1; rwa [rowL_len] at this
    rw [List.flatMap_cons]
    cases k with
    | zero =>
      simp at h; subst h
      rw [List.getElem?_append_left (by rw [rowL_len]; omega)]
      simpa using hu
    | succ k =>
      rw [List.getElem?_append_right (by rw [rowL_len]; omega), rowL_len, show (k + 1) * 19 + j - 19 = k * 19 + j by omega]
      exact ih (by simpa using h) hu
theorem rgL_at {p : Value} {h : ByteArray} {s n : Nat} {R : List (Int × En)} {k : Nat} {x : Int × En} {j : Nat} {u : Value} (hk : R[k]? = some x) (hu : (rowL x)[j]? = some u) : (rgL p h s n R)[4 + k * 19 + j]? = some u := by
  unfold rgL
  rw [List.getElem?_append_right (by simp [hdL]; omega), show 4 + k * 19 + j - (hdL p h s n).length = k * 19 + j by simp [hdL]; omega]
  exact rows_at hk hu
/-- The ring lies in block B. -/
structure RgAt (w : World) (B : Nat) (g : Rg) (R : List (Int × En)) : Prop where
  a : AtC w B (rgL (ptr B) g.h g.size g.all.length R).toArray
  len : R.length = 8
  s1 : 1 ≤ g.size
  s8 : g.size ≤ 8
  rows : ∀ n x, g.all[n]? = some x → g.all.length ≤ n + g.size → R[n % g.size]? = some x
theorem RgAt.below {w w' : World} {B : Nat} {g : Rg} {R : List (Int × En)} (h : RgAt w B g R) (k : Below w.heap.size w w') : RgAt w' B g R := ⟨h.a.then k, h.len, h.s1, h.s8, h.rows⟩
theorem atC_kept {W W1 : World} {B : Nat} {C : Array Value} {P : Nat → Prop} (h : AtC W B C) (k : Kept W W1 P) (hp : P B) : AtC W1 B C :=
  ⟨Nat.lt_of_lt_of_le h.lt k.size, fun i => by rw [World.cell?_of_block (k.block B h.lt hp)]; exact h.c i, fun i => by rw [World.frozen?_of_block (k.block B h.lt hp)]; exact h.f i⟩
theorem RgAt.keep {w w' : World} {B : Nat} {g : Rg} {R : List (Int × En)} {P : Nat → Prop} (h : RgAt w B g R) (k : Kept w w' P) (hp : P B) : RgAt w' B g R := ⟨atC_kept h.a k hp, h.len, h.s1, h.s8, h.rows⟩
theorem RgAt.lt {w : World} {B : Nat} {g : Rg} {R : List (Int × En)} (h : RgAt w B g R) : B < w.heap.size := h.a.lt
theorem RgAt.c0 {w : World} {B : Nat} {g : Rg} {R : List (Int × En)} (h : RgAt w B g R) : w.cell? ⟨B, 0, none⟩ = some (ptr B) := by rw [h.a.c]; simp [rgL, hdL]
theorem RgAt.c1 {w : World} {B : Nat} {g : Rg} {R : List (Int × En)} (h : RgAt w B g R) : w.cell? ⟨B, 1, none⟩ = some (.string g.h) := by rw [h.a.c]; simp [rgL, hdL]
theorem RgAt.c2 {w : World} {B : Nat} {g : Rg} {R : List (Int × En)} (h : RgAt w B g R) : w.cell? ⟨B, 2, none⟩ = some (.int .i64 g.size) := by rw [h.a.c]; simp [rgL, hdL]
theorem RgAt.c3 {w : World} {B : Nat} {g : Rg} {R : List (Int × En)} (h : RgAt w B g R) : w.cell? ⟨B, 3, none⟩ = some (.int .i64 g.all.length) := by rw [h.a.c]; simp [rgL, hdL]
theorem RgAt.range {w : World} {B : Nat} {g : Rg} {R : List (Int × En)} (h : RgAt w B g R) {k : Nat} {x : Int × En} (hk : R[k]? = some x) : w.rangeAt B (4 + k * 19) (rowC x).toList := fun j v hv => by
  rw [h.a.c, List.getElem?_toArray]
  exact rgL_at hk hv
/-- The k-th from the last one on. -/
theorem RgAt.nth {w : World} {B : Nat} {g : Rg} {R : List (Int × En)} (h : RgAt w B g R) {k : Nat} {x : Int × En} (hx : (kept g)[k]? = some x) : R[(g.all.length - 1 - k) % g.size]? = some x := by
  have hk : k < min g.all.length g.size := by have := (List.getElem?_eq_some_iff.1 hx).1; rwa [kept_len] at this
  rw [kept_at hk] at hx
  exact h.rows _ _ hx (by omega)
/-! ## a row put in -/
theorem mod_ne {n m s : Nat} (h1 : m < n) (h2 : n < m + s) (hs : 1 ≤ s) : m % s ≠ n % s := by
  intro e
  have e1 := Nat.div_add_mod n s
  have e2 := Nat.div_add_mod m s
  rw [e] at e2
  have h3 : s * (n / s) = s * (m / s) + (n - m) := by omega
  have h4 : (n - m) % s = 0 := by
    have : n - m = s * (n / s - m / s) := by rw [Nat.mul_sub]; omega
    rw [this]; exact Nat.mul_mod_right _ _
  rw [Nat.mod_eq_of_lt (by omega)] at h4
  omega
theorem rows_put {g : Rg} {R : List (Int × En)} (hl : R.length = 8) (s1 : 1 ≤ g.size) (s8 : g.size ≤ 8) (hr : ∀ n x, g.all[n]? = some x → g.all.length ≤ n + g.size → R[n % g.size]? = some x) (v : Int) (e : En) :
    ∀ n x, (g.all ++ [(v, e)])[n]? = some x → (g.all ++ [(v, e)]).length ≤ n + g.size → (R.set (g.all.length % g.size) (v, e))[n % g.size]? = some x := by
  intro n x hx hn
  simp at hn
  have hlt : n < g.all.length + 1 := by have := (List.getElem?_eq_some_iff.1 hx).1; simpa using this
  by_cases e1 : n = g.all.length
  · subst e1
    simp at hx; subst hx
    have : g.all.length % g.size < 8 := Nat.lt_of_lt_of_le (Nat.mod_lt _ (by omega)) s8
    rw [List.getElem?_set_self (by omega)]
  · rw [List.getElem?_append_left (by omega)] at hx
    rw [List.getElem?_set_ne (mod_ne (m := n) (n := g.all.length) (by omega) (by omega) s1).symm]
    exact hr n x hx (by omega)
theorem flat_set {R : List (Int × En)} : ∀ {k : Nat} {x : Int × En}, k < R.length → (R.set k x).flatMap rowL = (R.take k).flatMap rowL ++ rowL x ++ (R.drop (k + 1)).flatMap rowL := by
  induction R with
  | nil => intro k x h; simp at h
  | cons y R ih =>
    intro k x h
    cases k with
    | zero => simp
    | succ k => simp only [List.set_cons_succ, List.flatMap_cons, List.take_succ_cons, List.drop_succ_cons]; rw [ih (by simpa using h)]; simp
theorem flat_at {R : List (Int × En)} : ∀ {k : Nat} {x : Int × En}, R[k]? = some x → R.flatMap rowL = (R.take k).flatMap rowL ++ rowL x ++ (R.drop (k + 1)).flatMap rowL := by
  intro k x h
  have hk := (List.getElem?_eq_some_iff.1 h).1
  rw [← flat_set hk]
  congr 1
  obtain ⟨_, rfl⟩ := List.getElem?_eq_some_iff.1 h
  simp
/-- A row stored at its place. -/
theorem rg_store {w : World} {B : Nat} {h : ByteArray} {s n : Nat} {R : List (Int × En)} {p : Value} (hA : AtC w B (rgL p h s n R).toArray) {k : Nat} (hk : k < R.length) (x : Int × En) :
    AtC (w.setCells B (4 + k * 19) (rowC x).toList) B (rgL p h s n (R.set k x)).toArray := by
  obtain ⟨y, hy⟩ : ∃ y, R[k]? = some y := ⟨_, List.getElem?_eq_getElem hk⟩
  rw [setCells_row]
  have e1 : rgL p h s n R = (hdL p h s n ++ (R.take k).flatMap rowL) ++ rowL y ++ (R.drop (k + 1)).flatMap rowL := by unfold rgL; rw [flat_at hy]; simp only [List.append_assoc]
  have e2 : rgL p h s n (R.set k x) = (hdL p h s n ++ (R.take k).flatMap rowL) ++ rowL x ++ (R.drop (k + 1)).flatMap rowL := by unfold rgL; rw [flat_set hk]; simp only [List.append_assoc]
  have e3 : (hdL p h s n ++ (R.take k).flatMap rowL).length = 4 + k * 19 := by rw [List.length_append, rows_len, List.length_take, Nat.min_eq_left (by omega)]; rfl
  rw [e1] at hA
  rw [e2]
  have q := at_mid (rowL x) _ _ _ w hA (by rw [rowL_len, rowL_len])
  rw [e3] at q
  exact q
theorem set_keptN {W : World} {B off : Nat} (vs : List Value) : Kept W (W.setCells B off vs) (· ≠ B) := by
  rw [setCells_row]
  exact kept_stC (fun _ q => q rfl) _ _ _ (Kept.refl _ _)
theorem rg_head {p : Value} {h : ByteArray} {s n m : Nat} {R : List (Int × En)} : (rgL p h s n R).toArray.setIfInBounds 3 (.int .i64 (m : Int)) = (rgL p h s m R).toArray := by simp [rgL, hdL]
theorem rg_self {p q : Value} {h : ByteArray} {s n : Nat} {R : List (Int × En)} : (rgL p h s n R).toArray.setIfInBounds 0 q = (rgL q h s n R).toArray := by simp [rgL, hdL]
end Go.Proofs.Ytecdcfmbhphagaa.BX
