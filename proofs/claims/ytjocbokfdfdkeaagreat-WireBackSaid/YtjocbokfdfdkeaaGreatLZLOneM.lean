/-
  What is told of bytes: which of the three they are; of a part of them, and of one more.
-/
import Derived.Test.YtjocbokfdfdkeaaGreatLZLReadR
import Derived.Test.YtjocbokfdfdkeaaGreatLZLReadQ
import Derived.Test.YtjocbokfdfdkeaaGreatLZLReadY
import Derived.Test.YtjocbokfdfdkeaaGreatLZ8
import Derived.Test.YtjocbokfdfdkeaaGreatLZ10
namespace Go.Proofs.YtjocbokfdfdkeaaGreat.PX
open Go.RowKit HL
open IX (ptr El cellsK cellsK_at cellsK_len OwnK RdK Kept strK slice_toK)
open YX (numB rdU rdB rdT rdS rdI addW intN natI rest told WAt WPt Wr RAt vS vU vI u8K Got)
open DX (Ch ch chCells chK zeroCh)
set_option maxRecDepth 100000
set_option linter.unusedVariables false
set_option linter.unusedSimpArgs false

theorem head_take {b : Bs} {k : Nat} {x : UInt8} (h : (b.take k).head? = some x) : b.head? = some x := by
  cases b with
  | nil => simp at h
  | cons c t =>
    cases k with
    | zero => simp at h
    | succ k => simpa using h
theorem head_more {b r : Bs} {x : UInt8} (hb : b ≠ []) (h : (b ++ r).head? = some x) : b.head? = some x := by
  cases b with
  | nil => exact absurd rfl hb
  | cons c t => simpa using h
theorem place_of2 (i : Int) (n : Nat) (h0 : 1 ≤ n) (hn : n ≤ 4000) : ∃ (u : Int) (k : Nat), IntKind.u64.wrap i = u ∧ 0 ≤ u ∧ (u % (n : Int)) = (k : Int) ∧ k < n := by
  have h0 : (0 : Int) ≤ IntKind.u64.wrap i := by
    simp only [IntKind.wrap]
    exact Int.emod_nonneg _ (by decide)
  refine ⟨IntKind.u64.wrap i, (IntKind.u64.wrap i % (n : Int)).toNat, rfl, h0, ?_, ?_⟩
  · have := Int.emod_nonneg (IntKind.u64.wrap i) (b := (n : Int)) (by omega)
    omega
  · have := Int.emod_lt_of_pos (IntKind.u64.wrap i) (b := (n : Int)) (by omega)
    have := Int.emod_nonneg (IntKind.u64.wrap i) (b := (n : Int)) (by omega)
    omega
theorem rd_takeL {α : Type} {K : El α} {w : World} {B : Nat} {A : Option Addr} {l : List α} (h : RdK K w B A l) (k : Nat) : RdK K w B A (l.take k) := by
  rcases h with rfl | ⟨b, off, e, hb, hc⟩
  · exact .inl (by simp)
  · refine .inr ⟨b, off, e, hb, fun m u hu => hc m u ?_⟩
    have e2 : cellsK K l = cellsK K (l.take k) ++ cellsK K (l.drop k) := by rw [← IX.cellsK_app, List.take_append_drop]
    rw [e2, List.getElem?_append_left (List.getElem?_eq_some_iff.1 hu).1]
    exact hu
theorem rd_noneL {α : Type} {K : El α} {w : World} {B : Nat} {A : Option Addr} {l : List α} (h : RdK K w B A l) : A = none → l = [] := fun e => by
  rcases h with h | ⟨b, off, e2, _⟩
  · exact h
  · rw [e] at e2; cases e2
/-- None of the three reads them. -/
structure No3 (b : Bs) : Prop where
  q : readQ b = none
  y : readY b = none
  r : readR b = none
theorem onlyQ {b : Bs} {q : Rq} (h : readQ b = some q) : b ≠ [] ∧ (∀ c : Bs, c.head? = b.head? ∨ c = [] → (readR c = none ∧ readY c = none)) := by
  have e := readQ_head h
  refine ⟨fun q => (by rw [q] at e; cases e), fun c hc => ?_⟩
  have key : ∀ x, c.head? = some x → x = 113 := fun x hx => by
    rcases hc with hc | hc
    · rw [hc, e] at hx; exact (Option.some.inj hx).symm
    · rw [hc] at hx; cases hx
  refine ⟨?_, ?_⟩
  · cases z : readR c with
    | none => rfl
    | some p => have := key _ (readR_head z); exact absurd this (by decide)
  · cases z : readY c with
    | none => rfl
    | some p => have := key _ (readY_head z); exact absurd this (by decide)
theorem partQ {b : Bs} {q : Rq} (h : readQ b = some q) {n : Nat} (hn : n < b.length) : No3 (b.take n) := by
  obtain ⟨_, ho⟩ := onlyQ h
  have hh : (b.take n).head? = b.head? ∨ b.take n = [] := by
    cases n with
    | zero => exact .inr (by simp)
    | succ n => left; cases b with
      | nil => simp at hn
      | cons c t => simp
  obtain ⟨g1, g2⟩ := ho _ hh
  have g0 : readQ (b.take n) = none := by
    cases z : readQ (b.take n) with
    | none => rfl
    | some p =>
      exfalso
      have := readQ_one z (r := b.drop n) (q2 := q) (by rw [List.take_append_drop]; exact h)
      have hl := congrArg List.length this
      rw [List.length_drop] at hl
      simp at hl
      omega
  exact ⟨g0, g2, g1⟩
theorem moreQ {b : Bs} {q : Rq} (h : readQ b = some q) (x : UInt8) : No3 (b ++ [x]) := by
  obtain ⟨hne, ho⟩ := onlyQ h
  have hh : (b ++ [x]).head? = b.head? := by cases b with
    | nil => exact absurd rfl hne
    | cons c t => simp
  obtain ⟨g1, g2⟩ := ho _ (.inl hh)
  have g0 : readQ (b ++ [x]) = none := by
    cases z : readQ (b ++ [x]) with
    | none => rfl
    | some p => have := readQ_one h z; cases this
  exact ⟨g0, g2, g1⟩
theorem onlyR {b : Bs} {q : Int × List Ch × Bool} (h : readR b = some q) : b ≠ [] ∧ (∀ c : Bs, c.head? = b.head? ∨ c = [] → (readQ c = none ∧ readY c = none)) := by
  have e := readR_head h
  refine ⟨fun q => (by rw [q] at e; cases e), fun c hc => ?_⟩
  have key : ∀ x, c.head? = some x → x = 114 := fun x hx => by
    rcases hc with hc | hc
    · rw [hc, e] at hx; exact (Option.some.inj hx).symm
    · rw [hc] at hx; cases hx
  refine ⟨?_, ?_⟩
  · cases z : readQ c with
    | none => rfl
    | some p => have := key _ (readQ_head z); exact absurd this (by decide)
  · cases z : readY c with
    | none => rfl
    | some p => have := key _ (readY_head z); exact absurd this (by decide)
theorem partR {b : Bs} {q : Int × List Ch × Bool} (h : readR b = some q) {n : Nat} (hn : n < b.length) : No3 (b.take n) := by
  obtain ⟨_, ho⟩ := onlyR h
  have hh : (b.take n).head? = b.head? ∨ b.take n = [] := by
    cases n with
    | zero => exact .inr (by simp)
    | succ n => left; cases b with
      | nil => simp at hn
      | cons c t => simp
  obtain ⟨g1, g2⟩ := ho _ hh
  have g0 : readR (b.take n) = none := by
    cases z : readR (b.take n) with
    | none => rfl
    | some p =>
      exfalso
      have := readR_one z (r := b.drop n) (q2 := q) (by rw [List.take_append_drop]; exact h)
      have hl := congrArg List.length this
      rw [List.length_drop] at hl
      simp at hl
      omega
  exact ⟨g1, g2, g0⟩
theorem moreR {b : Bs} {q : Int × List Ch × Bool} (h : readR b = some q) (x : UInt8) : No3 (b ++ [x]) := by
  obtain ⟨hne, ho⟩ := onlyR h
  have hh : (b ++ [x]).head? = b.head? := by cases b with
    | nil => exact absurd rfl hne
    | cons c t => simp
  obtain ⟨g1, g2⟩ := ho _ (.inl hh)
  have g0 : readR (b ++ [x]) = none := by
    cases z : readR (b ++ [x]) with
    | none => rfl
    | some p => have := readR_one h z; cases this
  exact ⟨g1, g2, g0⟩
theorem onlyY {b : Bs} {q : Rp} (h : readY b = some q) : b ≠ [] ∧ (∀ c : Bs, c.head? = b.head? ∨ c = [] → (readQ c = none ∧ readR c = none)) := by
  have e := readY_head h
  refine ⟨fun q => (by rw [q] at e; cases e), fun c hc => ?_⟩
  have key : ∀ x, c.head? = some x → x = 112 := fun x hx => by
    rcases hc with hc | hc
    · rw [hc, e] at hx; exact (Option.some.inj hx).symm
    · rw [hc] at hx; cases hx
  refine ⟨?_, ?_⟩
  · cases z : readQ c with
    | none => rfl
    | some p => have := key _ (readQ_head z); exact absurd this (by decide)
  · cases z : readR c with
    | none => rfl
    | some p => have := key _ (readR_head z); exact absurd this (by decide)
theorem partY {b : Bs} {q : Rp} (h : readY b = some q) {n : Nat} (hn : n < b.length) : No3 (b.take n) := by
  obtain ⟨_, ho⟩ := onlyY h
  have hh : (b.take n).head? = b.head? ∨ b.take n = [] := by
    cases n with
    | zero => exact .inr (by simp)
    | succ n => left; cases b with
      | nil => simp at hn
      | cons c t => simp
  obtain ⟨g1, g2⟩ := ho _ hh
  have g0 : readY (b.take n) = none := by
    cases z : readY (b.take n) with
    | none => rfl
    | some p =>
      exfalso
      have := readY_one z (r := b.drop n) (q2 := q) (by rw [List.take_append_drop]; exact h)
      have hl := congrArg List.length this
      rw [List.length_drop] at hl
      simp at hl
      omega
  exact ⟨g1, g0, g2⟩
theorem moreY {b : Bs} {q : Rp} (h : readY b = some q) (x : UInt8) : No3 (b ++ [x]) := by
  obtain ⟨hne, ho⟩ := onlyY h
  have hh : (b ++ [x]).head? = b.head? := by cases b with
    | nil => exact absurd rfl hne
    | cons c t => simp
  obtain ⟨g1, g2⟩ := ho _ (.inl hh)
  have g0 : readY (b ++ [x]) = none := by
    cases z : readY (b ++ [x]) with
    | none => rfl
    | some p => have := readY_one h z; cases this
  exact ⟨g1, g0, g2⟩
theorem noQ (A : Option Addr) (c : Nat) (b : Bs) (w : World) (h : RdK u8K w w.heap.size A b) (hb : b.length ≤ 1000000) (hA : A = none → c = 0) (hn : readQ b = none) :
    Calls Tryz.prog 19 #[.slice A b.length c] w fun e w' => e = .returned (.tuple #[.agg zQ, .int .i64 120]) ∧ Below w.heap.size w w' := by
  have := tellQ_any A c b w h hb hA
  rw [hn] at this
  exact this.mono fun e w' ⟨k, he⟩ => ⟨he, k⟩
theorem noY (A : Option Addr) (c : Nat) (b : Bs) (w : World) (h : RdK u8K w w.heap.size A b) (hb : b.length ≤ 1000000) (hA : A = none → c = 0) (hn : readY b = none) :
    Calls Tryz.prog 21 #[.slice A b.length c] w fun e w' => e = .returned (.tuple #[.agg zY, .int .i64 120]) ∧ Below w.heap.size w w' := by
  have := tellY_any A c b w h hb hA
  rw [hn] at this
  exact this.mono fun e w' ⟨k, he⟩ => ⟨he, k⟩
theorem noR (A : Option Addr) (c : Nat) (b : Bs) (w : World) (h : RdK u8K w w.heap.size A b) (hb : b.length ≤ 1000000) (hA : A = none → c = 0) (hn : readR b = none) :
    Calls Tryz.prog 23 #[.slice A b.length c] w fun e w' => e = .returned (.tuple #[.agg zR, .int .i64 120]) ∧ Below w.heap.size w w' := by
  have := tellR_any A c b w h hb hA
  rw [hn] at this
  exact this.mono fun e w' ⟨k, he⟩ => ⟨he, k⟩
theorem someQ (A : Option Addr) (c : Nat) (b : Bs) (q : Rq) (w : World) (h : RdK u8K w w.heap.size A b) (hb : b.length ≤ 1000000) (hA : A = none → c = 0) (hn : readQ b = some q) :
    Calls Tryz.prog 19 #[.slice A b.length c] w fun e w' => ∃ A4 c4, e = .returned (.tuple #[rq q A4 q.hs.length c4, .int .i64 0]) ∧ RdK strK w' w'.heap.size A4 q.hs ∧ Below w.heap.size w w' := by
  have := tellQ_any A c b w h hb hA
  rw [hn] at this
  exact this.mono fun e w' ⟨k, A4, c4, he, hr, _⟩ => ⟨A4, c4, he, hr, k⟩
theorem someR (A : Option Addr) (c : Nat) (b : Bs) (q : Int × List Ch × Bool) (w : World) (h : RdK u8K w w.heap.size A b) (hb : b.length ≤ 1000000) (hA : A = none → c = 0) (hn : readR b = some q) :
    Calls Tryz.prog 23 #[.slice A b.length c] w fun e w' => ∃ A4 c4, e = .returned (.tuple #[rp q.1 A4 q.2.1.length c4 q.2.2, .int .i64 0]) ∧ RdK chK w' w'.heap.size A4 q.2.1 ∧ Below w.heap.size w w' := by
  have := tellR_any A c b w h hb hA
  rw [hn] at this
  exact this.mono fun e w' ⟨k, A4, c4, he, hr, _⟩ => ⟨A4, c4, he, hr, k⟩
theorem someY (A : Option Addr) (c : Nat) (b : Bs) (q : Rp) (w : World) (h : RdK u8K w w.heap.size A b) (hb : b.length ≤ 1000000) (hA : A = none → c = 0) (hn : readY b = some q) :
    Calls Tryz.prog 21 #[.slice A b.length c] w fun e w' => ∃ A4 c4 A5 c5, e = .returned (.tuple #[rl q A4 q.es.length c4 A5 q.cs.length c5, .int .i64 0]) ∧ RdK enK w' w'.heap.size A4 q.es ∧ RdK chK w' w'.heap.size A5 q.cs ∧ Below w.heap.size w w' := by
  have := tellY_any A c b w h hb hA
  rw [hn] at this
  exact this.mono fun e w' ⟨k, A4, c4, A5, c5, he, hr, hr2, _, _⟩ => ⟨A4, c4, A5, c5, he, hr, hr2, k⟩
/-- What is written again. -/
theorem ownQ {b : Bs} {q : Rq} (hn : readQ b = some q) (A4 : Option Addr) (c4 : Nat) (w : World) (h : RdK strK w w.heap.size A4 q.hs) :
    Calls Tryz.prog 9 #[rq q A4 q.hs.length c4] w fun e w' => ∃ A6 c6, e = .returned (.tuple #[.slice A6 b.length c6, .int .i64 0]) ∧ RdK u8K w' w'.heap.size A6 b ∧ Below w.heap.size w w' := by
  obtain ⟨_, _, hF, h64, hw⟩ := readQ_inv hn
  have := request_any q A4 c4 hF w h
  rw [show reqB q = some b by unfold reqB; rw [if_neg (by omega), hw]] at this
  exact bts_some this
theorem ownR {b : Bs} {q : Int × List Ch × Bool} (hn : readR b = some q) (A4 : Option Addr) (c4 : Nat) (w : World) (h : RdK chK w w.heap.size A4 q.2.1) :
    Calls Tryz.prog 13 #[rp q.1 A4 q.2.1.length c4 q.2.2] w fun e w' => ∃ A6 c6, e = .returned (.tuple #[.slice A6 b.length c6, .int .i64 0]) ∧ RdK u8K w' w'.heap.size A6 b ∧ Below w.heap.size w w' := by
  obtain ⟨_, _, hv, hF, h64, hw⟩ := readR_inv hn
  have := report_any q.1 A4 c4 q.2.1 q.2.2 w hv h hF (by omega)
  rw [show repB q.1 q.2.1 q.2.2 = some b by unfold repB; rw [if_neg (by omega), hw]] at this
  exact bts_some this
theorem ownY {b : Bs} {q : Rp} (hn : readY b = some q) (A4 : Option Addr) (c4 : Nat) (A5 : Option Addr) (c5 : Nat) (w : World) (h : RdK enK w w.heap.size A4 q.es) (h2 : RdK chK w w.heap.size A5 q.cs) :
    Calls Tryz.prog 11 #[rl q A4 q.es.length c4 A5 q.cs.length c5] w fun e w' => ∃ A6 c6, e = .returned (.tuple #[.slice A6 b.length c6, .int .i64 0]) ∧ RdK u8K w' w'.heap.size A6 b ∧ Below w.heap.size w w' := by
  obtain ⟨_, _, hF, h64, hw⟩ := readY_inv hn
  have := reply_any q A4 c4 A5 c5 hF w h h2
  rw [show rplB q = some b by unfold rplB; rw [if_neg (by omega), hw]] at this
  exact bts_some this
end Go.Proofs.YtjocbokfdfdkeaaGreat.PX
