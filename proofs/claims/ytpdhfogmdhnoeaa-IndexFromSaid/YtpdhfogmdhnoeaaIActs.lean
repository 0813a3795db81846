/-
  ACTS on an index: how they lie in memory, what they do to the list; the index and the document's side by side; the law's guard.
-/
import Derived.Test.YtpdhfogmdhnoeaaIRefCopy
import Derived.Test.YtpdhfogmdhnoeaaIRefTake
import Derived.Test.YtpdhfogmdhnoeaaIRefPut
import Derived.Deep.RegionHeld3
namespace Go.Proofs.Ytpdhfogmdhnoeaa.IX
open Go.RowKit HL
set_option maxRecDepth 100000
set_option linter.unusedVariables false
set_option linter.unusedSimpArgs false

/-- What happens to an index. -/
structure Act1 where
  take : Bool
  h : Bs
  n : Int
noncomputable def actK : El Act1 where
  T := 22
  e := 32
  size := 3
  bytes := 32
  z := .agg #[.bool false, .string ByteArray.empty, .int .i64 0]
  i := infoOf 32
  enc := fun x => [.bool x.take, str x.h, .int .i64 x.n]
  el := by kernel_rfl
  ht := Try.underlying22
  hi := by kernel_rfl
  hz := by kernel_rfl
  hs := by kernel_rfl
  hb := by kernel_rfl
  hzs := rfl
  pos := by decide
  len := fun _ => rfl
  one := fun _ u hu => by simp at hu; rcases hu with rfl | rfl | rfl <;> rfl
  small := by decide
/-- The cells behind A, below block B, are the acts l. -/
def RdA (w : World) (B : Nat) (A : Option Addr) (l : List Act1) : Prop := l = [] ∨ ∃ b off, A = some ⟨b, off, none⟩ ∧ b < B ∧ ∀ j x, l[j]? = some x → w.cell? ⟨b, off + j * 3, none⟩ = some (.bool x.take) ∧ w.cell? ⟨b, off + j * 3 + 1, none⟩ = some (str x.h) ∧ w.cell? ⟨b, off + j * 3 + 2, none⟩ = some (.int .i64 x.n)
theorem RdA.at_ {w : World} {B : Nat} {A : Option Addr} {l : List Act1} (h : RdA w B A l) (h0 : 0 < l.length) : ∃ b off, A = some ⟨b, off, none⟩ ∧ b < B ∧ ∀ j x, l[j]? = some x → w.cell? ⟨b, off + j * 3, none⟩ = some (.bool x.take) ∧ w.cell? ⟨b, off + j * 3 + 1, none⟩ = some (str x.h) ∧ w.cell? ⟨b, off + j * 3 + 2, none⟩ = some (.int .i64 x.n) := by
  rcases h with rfl | h
  · simp at h0
  · exact h
theorem RdK.acts {w : World} {B : Nat} {A : Option Addr} {l : List Act1} (h : RdK actK w B A l) : RdA w B A l := by
  rcases h with h | ⟨b, off, e, hb, hc⟩
  · exact .inl h
  · refine .inr ⟨b, off, e, hb, fun j x hx => ?_⟩
    have h0 := hc _ _ (cellsK_at actK hx (i := 0) (u := .bool x.take) rfl)
    have h1 := hc _ _ (cellsK_at actK hx (i := 1) (u := str x.h) rfl)
    have h2 := hc _ _ (cellsK_at actK hx (i := 2) (u := .int .i64 x.n) rfl)
    exact ⟨h0, by rw [Nat.add_assoc]; exact h1, by rw [Nat.add_assoc]; exact h2⟩
theorem RdA.below {w w' : World} {B : Nat} {A : Option Addr} {l : List Act1} (h : RdA w B A l) (k : Below B w w') : RdA w' B A l := by
  rcases h with h | ⟨b, off, e, hb, hc⟩
  · exact .inl h
  · exact .inr ⟨b, off, e, hb, fun j x hx => ⟨(k.cell (p := ⟨b, _, none⟩) hb).trans (hc j x hx).1, (k.cell (p := ⟨b, _, none⟩) hb).trans (hc j x hx).2.1, (k.cell (p := ⟨b, _, none⟩) hb).trans (hc j x hx).2.2⟩⟩
noncomputable def stepA (l : List Rw) (x : Act1) : List Rw := if x.take then takeL l x.h else putL l x.h x.n
noncomputable def runA (l : List Rw) (a : List Act1) : List Rw := a.foldl stepA l
theorem runA_snoc (s : List Rw) {l : List Act1} {k : Nat} (h : k < l.length) : runA s (l.take (k + 1)) = stepA (runA s (l.take k)) l[k] := by
  unfold runA
  rw [List.take_succ_eq_append_getElem h, List.foldl_append]; rfl
theorem putL_mem {l : List Rw} {h : Bs} {n : Int} {r : Rw} (q : r ∈ putL l h n) : r ∈ l ∨ r = (h, n) := by
  unfold putL ins at q
  split at q
  · rcases List.mem_append.1 q with q | q
    · exact .inl (List.mem_of_mem_take q)
    · rcases List.mem_cons.1 q with q | q
      · exact .inr q
      · exact .inl (List.mem_of_mem_drop q)
  · exact .inl q
theorem putL_len (l : List Rw) (h : Bs) (n : Int) : (putL l h n).length ≤ l.length + 1 := by
  unfold putL
  split
  · simp [ins]; omega
  · omega
theorem takeL_mem {l : List Rw} {h : Bs} {r : Rw} (q : r ∈ takeL l h) : r ∈ l := by
  unfold takeL del at q
  split at q
  · rcases List.mem_append.1 q with q | q
    · exact List.mem_of_mem_take q
    · exact List.mem_of_mem_drop q
  · exact q
theorem takeL_len (l : List Rw) (h : Bs) : (takeL l h).length ≤ l.length := by
  unfold takeL del
  split
  · simp; omega
  · omega
/-- The index and the document's, side by side, at one list. -/
structure Both (w0 W : World) (B X : Nat) (v vH vN : Value) (l : List Rw) : Prop where
  a : IxAt W B v l
  r : RfAt W X vH vN l
  bel : Below w0.heap.size w0 W
  b0 : w0.heap.size ≤ B
  x0 : w0.heap.size ≤ X
  bx : X ≠ B
  v0 : ∀ k, v.ownBlock = some k → w0.heap.size ≤ k ∧ k ≠ X ∧ vH.ownBlock ≠ some k ∧ vN.ownBlock ≠ some k
  h0 : ∀ k, vH.ownBlock = some k → w0.heap.size ≤ k ∧ k ≠ B
  n0 : ∀ k, vN.ownBlock = some k → w0.heap.size ≤ k ∧ k ≠ B
  k : ∀ r ∈ l, r.1.length ≤ 100
/-- The blocks of a pair. -/
def Foot (B X : Nat) (v vH vN : Value) (k : Nat) : Prop := k = B ∨ k = X ∨ v.ownBlock = some k ∨ vH.ownBlock = some k ∨ vN.ownBlock = some k
theorem Both.max {w0 W : World} {B X : Nat} {v vH vN : Value} {l : List Rw} (h : Both w0 W B X v vH vN l) : ∀ r ∈ l, r.1.length ≤ maxLen := fun r q => Nat.le_trans (h.k r q) (by unfold maxLen; decide)
theorem Both.kept {w0 W W1 : World} {B X : Nat} {v vH vN : Value} {l : List Rw} {P : Nat → Prop} (h : Both w0 W B X v vH vN l) (k : Kept W W1 P) (hp : ∀ i, i < W.heap.size → Foot B X v vH vN i → P i) (p0 : ∀ i, i < w0.heap.size → P i) : Both w0 W1 B X v vH vN l :=
  ⟨h.a.kept k (hp _ h.a.a.lt (.inl rfl)) (fun b e => hp b (h.a.r.lt b e).2 (.inr (.inr (.inl e)))), h.r.kept k (hp _ h.r.a.lt (.inr (.inl rfl))) (fun b e => hp b (h.r.h.lt b e).2 (.inr (.inr (.inr (.inl e))))) (fun b e => hp b (h.r.n.lt b e).2 (.inr (.inr (.inr (.inr e))))),
    h.bel.trans (k.below h.bel.size p0), h.b0, h.x0, h.bx, h.v0, h.h0, h.n0, h.k⟩
theorem Both.then {w0 W W1 : World} {B X : Nat} {v vH vN : Value} {l : List Rw} (h : Both w0 W B X v vH vN l) (k : Below W.heap.size W W1) : Both w0 W1 B X v vH vN l :=
  h.kept (P := fun _ => True) (.of_below k) (fun _ _ _ => trivial) (fun _ _ => trivial)
/-- The document's behind a call that turned the index alone. -/
theorem Both.rf {w0 W W1 : World} {B X : Nat} {v vH vN : Value} {l : List Rw} (h : Both w0 W B X v vH vN l) (k1 : Kept W W1 (fun k => k ≠ B ∧ v.ownBlock ≠ some k)) : RfAt W1 X vH vN l :=
  h.r.kept k1 ⟨h.bx, fun e => (h.v0 _ e).2.1 rfl⟩ (fun b e => ⟨(h.h0 b e).2, fun q => (h.v0 b q).2.2.1 e⟩) (fun b e => ⟨(h.n0 b e).2, fun q => (h.v0 b q).2.2.2 e⟩)
/-- A call that turned the index alone, then one that turned the document's. -/
theorem Both.two {w0 W W1 W2 : World} {B X : Nat} {v vH vN v1 vH2 vN2 : Value} {l l' : List Rw} (h : Both w0 W B X v vH vN l) (a1 : IxAt W1 B v1 l') (f1 : ∀ k, v1.ownBlock = some k → v.ownBlock = some k ∨ W.heap.size ≤ k) (k1 : Kept W W1 (fun k => k ≠ B ∧ v.ownBlock ≠ some k))
    (r2 : RfAt W2 X vH2 vN2 l') (fH : ∀ k, vH2.ownBlock = some k → vH.ownBlock = some k ∨ W1.heap.size ≤ k) (fN : ∀ k, vN2.ownBlock = some k → vN.ownBlock = some k ∨ W1.heap.size ≤ k) (k2 : Kept W1 W2 (fun k => k ≠ X ∧ vH.ownBlock ≠ some k ∧ vN.ownBlock ≠ some k)) (hk : ∀ r ∈ l', r.1.length ≤ 100) :
    Both w0 W2 B X v1 vH2 vN2 l' ∧ Kept W W2 (fun k => ¬ Foot B X v vH vN k) ∧ ∀ k, Foot B X v1 vH2 vN2 k → Foot B X v vH vN k ∨ W.heap.size ≤ k := by
  have zB := h.a.a.lt
  have zX := h.r.a.lt
  have z1 := k1.size
  have zs := h.bel.size
  have b0 := h.b0
  have x0 := h.x0
  have q1 : ∀ k, v1.ownBlock = some k → k ≠ X ∧ vH.ownBlock ≠ some k ∧ vN.ownBlock ≠ some k := fun k e => by
    rcases f1 k e with q | q
    · exact (h.v0 k q).2
    · exact ⟨by omega, fun e2 => by have := (h.r.h.lt k e2).2; omega, fun e2 => by have := (h.r.n.lt k e2).2; omega⟩
  refine ⟨⟨a1.kept k2 ⟨fun e => h.bx e.symm, fun e => (h.h0 _ e).2 rfl, fun e => (h.n0 _ e).2 rfl⟩ q1, r2, (h.bel.trans (k1.below zs (fun i hi => ⟨by omega, fun e => by have := (h.v0 i e).1; omega⟩))).trans (k2.below (Nat.le_trans zs z1) (fun i hi => ⟨by omega, fun e => by have := (h.h0 i e).1; omega, fun e => by have := (h.n0 i e).1; omega⟩)), b0, x0, h.bx, ?_, ?_, ?_, hk⟩, ?_, ?_⟩
  · intro k e
    have lt1 := (a1.r.lt k e).2
    refine ⟨?_, (q1 k e).1, fun e2 => ?_, fun e2 => ?_⟩
    · rcases f1 k e with q | q
      · exact (h.v0 k q).1
      · omega
    · rcases fH k e2 with q | q
      · exact (q1 k e).2.1 q
      · omega
    · rcases fN k e2 with q | q
      · exact (q1 k e).2.2 q
      · omega
  · intro k e
    rcases fH k e with q | q
    · exact h.h0 k q
    · omega
  · intro k e
    rcases fN k e with q | q
    · exact h.n0 k q
    · omega
  · refine Kept.trans (k1.weak fun k q => ⟨fun e => q (.inl e), fun e => q (.inr (.inr (.inl e)))⟩) (k2.weak fun k q => ⟨fun e => q (.inr (.inl e)), fun e => q (.inr (.inr (.inr (.inl e)))), fun e => q (.inr (.inr (.inr (.inr e))))⟩)
  · intro k q
    rcases q with q | q | q | q | q
    · exact .inl (.inl q)
    · exact .inl (.inr (.inl q))
    · rcases f1 k q with e | e
      · exact .inl (.inr (.inr (.inl e)))
      · exact .inr e
    · rcases fH k q with e | e
      · exact .inl (.inr (.inr (.inr (.inl e))))
      · exact .inr (by omega)
    · rcases fN k q with e | e
      · exact .inl (.inr (.inr (.inr (.inr e))))
      · exact .inr (by omega)
/-! ## The guard -/
def longB (l : List Act1) : Bool := decide (200 < l.length) || l.any fun x => decide (100 < x.h.length)
theorem longB_f {l : List Act1} (h : longB l = false) : l.length ≤ 200 ∧ ∀ x ∈ l, x.h.length ≤ 100 := by
  simp [longB] at h
  exact h
theorem long_any (A : Option Addr) (c : Nat) (l : List Act1) (w : World) (hr : RdA w w.heap.size A l) (hm : l.length ≤ maxLen) (hh : ∀ x ∈ l, x.h.length ≤ maxLen) :
    Calls Try.prog 9 #[.slice A l.length c] w fun e w' => e = .returned (.bool (longB l)) ∧ w = w' := by
  have hmm := hm
  unfold maxLen at hmm
  by_cases hl : 200 < l.length
  · have i1 : (200 : Int) < l.length := by omega
    have hv : longB l = true := by simp [longB, hl]
    go_enter Try.func9, Try.ntmps9
    go_wp2
    go_ret
    exact ⟨by rw [hv]; rfl, rfl⟩
  · have i1 : ¬ (200 : Int) < l.length := by omega
    have HR := Lib.hid hr
    clear hr
    go_enter Try.func9, Try.ntmps9
    go_wp2
    go_loopw [3] (fun i wr => ∃ k : Nat, i = .int .i64 k ∧ k ≤ l.length ∧ (∀ x ∈ l.take k, ¬ 100 < x.h.length) ∧ wr = w) (fun i _ => l.length - (intOf i).toNat)
    case atStart => exact ⟨0, rfl, Nat.zero_le _, by simp, rfl⟩
    case round =>
      obtain ⟨k, rfl, hk, hq, rfl⟩ := hrel
      by_cases hlt : k < l.length
      · obtain ⟨b, off, rfl, hbb, hcc⟩ := HR.out.at_ (by omega)
        obtain ⟨_, q2, _⟩ := hcc k _ (List.getElem?_eq_getElem hlt)
        have i2 : (k : Int) < l.length := by omega
        have hx := hh _ (List.getElem_mem hlt)
        unfold maxLen at hx
        have HM := Lib.hid (List.getElem_mem hlt)
        have HT := Lib.hid (List.take_succ_eq_append_getElem hlt)
        clear hcc
        generalize l[k] = x at *
        by_cases hx2 : 100 < x.h.length
        · have i3 : (100 : Int) < x.h.length := by omega
          have hv : longB l = true := by simp only [longB, Bool.or_eq_true, List.any_eq_true]; exact .inr ⟨x, HM.out, by simpa using hx2⟩
          go_wp2
          go_ret
          exact ⟨by rw [hv]; rfl, rfl⟩
        · have i3 : ¬ (100 : Int) < x.h.length := by omega
          go_wp2
          go_roundw
          case rel =>
            refine ⟨k + 1, by go_num, by omega, fun y hy => ?_, trivial⟩
            rw [HT.out] at hy
            rcases List.mem_append.1 hy with hy | hy
            · exact hq y hy
            · simp at hy; subst hy; exact hx2
          case measure => simp [intOf]; omega
      · obtain rfl : k = l.length := by omega
        have hv : longB l = false := by
          rw [List.take_length] at hq
          simp only [longB, Bool.or_eq_false_iff, decide_eq_false_iff_not, List.any_eq_false, decide_eq_true_eq]
          exact ⟨hl, hq⟩
        go_wp2
        go_ret
        exact ⟨by rw [hv]; rfl, rfl⟩
end Go.Proofs.Ytpdhfogmdhnoeaa.IX
