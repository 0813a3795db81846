/-
  PLAIN: a statement that draws its order, in a round of a range over a function, by a condition S on the world that need not hold behind what waits for all that was taken first.
-/
import Derived.Test.YtecdcfmbhphagaaRInTail
import Derived.OrdersHeld
import Derived.Deep.RegionHeld3
namespace Go.Proofs.Ytecdcfmbhphagaa.TX
open Go.RowKit
set_option maxRecDepth 100000
set_option linter.unusedVariables false
set_option linter.unusedSimpArgs false
section
variable {P : Program} {ops : Array Oper} {Q : Exit → Act → World → Prop} {md : Region.Mode} {S : World → Prop} {aw : List Nat}

def wpAnyS (P : Program) (md : Region.Mode) (ops : Array Oper) (Q : Exit → Act → World → Prop) (S : World → Prop) (aw : List Nat) : Nat → Array Bool → Act → World → Prop
  | 0, listed, a, w => Region.ready md ops listed = [] ∧ Q .normal a w
  | fuel + 1, listed, a, w =>
    (Region.ready md ops listed = [] → Q .normal a w) ∧
    ∀ i ∈ Region.ready md ops listed, wpOp P ops Q i (fun a' w' => (i ∉ aw → S w') ∧ wpAnyS P md ops Q S aw fuel (listed.setIfInBounds i true) a' w') a w

theorem wpAny_of_S : ∀ (fuel : Nat) (listed : Array Bool) (a : Act) (w : World), wpAnyS P md ops Q S aw fuel listed a w → wpAny P md ops Q fuel listed a w
  | 0, _, _, _, h => h
  | fuel + 1, _, _, _, h => ⟨h.1, fun i hi => wpOp_mono (fun a' w' h' => wpAny_of_S fuel _ a' w' h'.2) (h.2 i hi)⟩

/-- What is taken first is awaited by all of 'aw'. -/
def awaitedB (md : Region.Mode) (ops : Array Oper) (aw : List Nat) (i : Nat) : Bool :=
  aw.all fun j => match ops[j]? with
    | some oj => oj.after.any fun e => Region.binds md e && e.on == i
    | none => false
theorem awaited_spec {i j : Nat} {oj : Oper} (h : awaitedB md ops aw i = true) (hj : ops[j]? = some oj) (hno : ∀ e ∈ oj.after, Region.binds md e = true → e.on ≠ i) : j ∉ aw := fun hm => by
  have h1 := List.all_eq_true.1 h j hm
  simp only [hj] at h1
  obtain ⟨e, he, hb⟩ := Array.any_eq_true'.1 h1
  simp only [Bool.and_eq_true, beq_iff_eq] at hb
  exact hno e he hb.1 hb.2

theorem wpAnyS_first {i : Nat} {oi : Oper} {v : Value} (hi : ops[i]? = some oi) (hsel : ∀ (j : Nat) (o : Oper) cs b, ops[j]? = some o → o.op ≠ .select cs b)
    (haw : awaitedB md ops aw i = true) (hQ : ∀ c a w, Q (.panic c) (a.put oi.dst v) w → Q (.panic c) a w) :
    ∀ (fuel : Nat) (listed : Array Bool) (a : Act) (w : World),
      (∀ j oj, ops[j]? = some oj → j ≠ i → listed.getD j true = false → (∀ e ∈ oj.after, Region.binds md e = true → e.on ≠ i) → oi.apart ops oj = true) →
      i ∈ Region.ready md ops listed → YieldsIf P ops S oi v a → S w →
      wpAnyS P md ops Q S aw fuel (listed.setIfInBounds i true) (a.put oi.dst v) w → wpAnyS P md ops Q S aw (fuel + 1) listed a w := by
  intro fuel
  induction fuel with
  | zero =>
    intro listed a w _ hr hy hS H
    refine ⟨fun h => (by rw [h] at hr; cases hr), fun j hj => ?_⟩
    by_cases hji : j = i
    · subst hji; exact hy.wpOp hi hS ⟨fun _ => hS, H⟩
    · have := ready_mono hj hji
      rw [H.1] at this
      cases this
  | succ fuel ih =>
    intro listed a w hfree hr hy hS H
    refine ⟨fun h => (by rw [h] at hr; cases hr), fun j hj => ?_⟩
    by_cases hji : j = i
    · subst hji; exact hy.wpOp hi hS ⟨fun _ => hS, H⟩
    · have h1 := H.2 j (ready_mono hj hji)
      obtain ⟨hjun, oj, hoj, hall⟩ := mem_ready.1 hj
      have hnot : ∀ e ∈ oj.after, Region.binds md e = true → e.on ≠ i := fun e he hb heq => by
        have h1 := hall e he hb
        have h0 := (mem_ready.1 hr).1
        rw [heq] at h1
        rcases Nat.lt_or_ge i listed.size with h' | h'
        · simp [h'] at h0 h1; rw [h0] at h1; cases h1
        · simp [Array.getElem?_eq_none h'] at h1
      have hna : j ∉ aw := awaited_spec haw hoj hnot
      have h2 := wpOp_putIf hoj (hfree j oj hoj hji hjun hnot) (fun cs b => hsel i oi cs b hi) (fun cs b => hsel j oj cs b hoj) hQ hy h1
      have hfree' : ∀ k ok, ops[k]? = some ok → k ≠ i → (listed.setIfInBounds j true).getD k true = false →
          (∀ e ∈ ok.after, Region.binds md e = true → e.on ≠ i) → oi.apart ops ok = true := fun k ok hk hki hun hno => by
        refine hfree k ok hk hki ?_ hno
        by_cases hjk : j = k
        · subst hjk; exact hjun
        · rw [getD_set_ne true hjk] at hun; exact hun
      refine wpOp_mono (fun a' w' h3 => ⟨h3.2.1, ih (listed.setIfInBounds j true) a' w' hfree' (ready_mono hr (Ne.symm hji)) h3.1 (h3.2.1 hna) ?_⟩) h2
      rw [Array.setIfInBounds_comm _ _ hji]
      exact h3.2.2

theorem wpAnyS_take {i : Nat} {oi : Oper} {v : Value} {fuel : Nat} {listed : Array Bool} {a : Act} {w : World} (hi : ops[i]? = some oi)
    (hs : Region.noSelect ops = true) (hf : Region.free md ops listed i = true) (hr : (Region.ready md ops listed).contains i = true) (haw : awaitedB md ops aw i = true)
    (hQ : ∀ c a w, Q (.panic c) (a.put oi.dst v) w → Q (.panic c) a w) (hy : YieldsIf P ops S oi v a) (hS : S w)
    (h : wpAnyS P md ops Q S aw fuel (listed.setIfInBounds i true) (a.put oi.dst v) w) : wpAnyS P md ops Q S aw (fuel + 1) listed a w :=
  wpAnyS_first hi (Region.noSelect_spec hs) haw hQ fuel listed a w (Region.free_spec hi hf) (by simpa using hr) hy hS h

/-- One operation alone may come up. -/
theorem wpAnyS_one {i : Nat} {o : Oper} {fuel : Nat} {listed : Array Bool} {a : Act} {w : World} (hr : Region.ready md ops listed = [i]) (ho : ops[i]? = some o)
    (h : ∀ K' : Act → World → Prop, Shut (∀ a w, (i ∉ aw → S w) → wpAnyS P md ops Q S aw fuel (listed.setIfInBounds i true) a w → K' a w) → if Region.wanted o (yielded ops a.tmps) = true then Oper.wp P o a w K' Q else K' (a.put o.dst undef) w) :
    wpAnyS P md ops Q S aw (fuel + 1) listed a w := by
  refine ⟨fun h0 => (by rw [h0] at hr; cases hr), ?_⟩
  rw [hr]
  intro j hj
  obtain rfl : j = i := by simpa using hj
  exact wpOp_step ho (fun K' hK => h K' (fun a w hS hW => hK a w ⟨hS, hW⟩))

theorem wpAnyS_done {listed : Array Bool} {a : Act} {w : World} (hr : Region.ready md ops listed = []) (h : Q .normal a w) :
    ∀ fuel, wpAnyS P md ops Q S aw fuel listed a w
  | 0 => ⟨hr, h⟩
  | _ + 1 => ⟨fun _ => h, by rw [hr]; simp⟩
end

/-- The post, 'False' off the normal end. -/
def OnNormal (Q : Exit → Act → World → Prop) : Exit → Act → World → Prop := fun e a w => e = .normal ∧ Q .normal a w
theorem OnNormal.noOut {Q : Exit → Act → World → Prop} : ¬ LetsOut (OnNormal Q) := fun ⟨_, _, h, _⟩ => by cases h
section
variable {P : Program} {l : List Oper} {md : Region.Mode} {r m : Nat} {Q : Exit → Act → World → Prop}
theorem round_plain_op (hd : noDefer l = true) {i : Nat} {a : Act} {w : World} {K K' : Act → World → Prop} (hK : ∀ a w, K a w → K' a w) (hh : wpOp P l.toArray (OnNormal Q) i K a w) : wpOpIn (Fence.wide.inRound r) m P l.toArray Q i K' a w := by
  unfold wpOp at hh
  unfold wpOpIn
  cases ho : l.toArray[i]? with
  | none => simp only [ho] at hh ⊢; exact hK _ _ hh
  | some o =>
    have hmem : o ∈ l := by simpa using Array.mem_of_getElem? ho
    simp only [ho] at hh ⊢
    by_cases hw : Region.wanted o (yielded l.toArray a.tmps) = true
    · rw [if_pos hw] at hh ⊢
      rcases hh with hh | hh
      · refine ⟨fun _ _ => trivial, ?_⟩
        rw [Oper.semAt_eq _ _ _ (noDefer_of hd hmem)]
        unfold Oper.wp at hh
        generalize (execOp a.eval o).run P w = x at hh
        cases x with
        | halt x w' => cases x <;> first | exact hh.elim | (obtain ⟨h, _⟩ := hh; cases h)
        | ok x w' =>
          cases x with
          | value v => exact hK _ _ hh
          | skip => exact hK _ _ hh
          | defer d => exact hK _ _ hh
          | enter f args =>
            refine ⟨fun e => (by cases e), CallsIn.inRound r (callsIn_wide.2 hh) |>.mono ?_⟩
            intro e w'' he
            cases e with
            | returned v => exact hK _ _ he
            | panicked c => obtain ⟨h, _⟩ := he; cases h
            | outgrown => exact (OnNormal.noOut he).elim
          | row row args =>
            refine ⟨fun e => (by cases e), RowsIn.mono (R := fun v w'' => K (a.put o.dst v) w'') ?_ (fun v w'' he => hK _ _ he)⟩
            intro c cs _
            obtain ⟨v, w1, q, s⟩ := hh c cs
            exact ⟨v, w1, q, stepsIn_wide.2 s⟩
          | _ => exact hh.elim
      · exact (OnNormal.noOut hh.2).elim
    · rw [if_neg hw] at hh ⊢
      exact ⟨fun _ _ => trivial, hK _ _ hh⟩
theorem round_plain (hd : noDefer l = true) : ∀ (f : Nat) (listed : Array Bool) (a : Act) (w : World), wpAny P md l.toArray (OnNormal Q) f listed a w → wpAnyIn (Fence.wide.inRound r) m P md l.toArray Q f listed a w
  | 0, _, _, _, h => ⟨h.1, h.2.2⟩
  | f + 1, _, _, _, h => ⟨fun e => (h.1 e).2, fun i hi => round_plain_op hd (fun a' w' q => round_plain hd f _ a' w' q) (h.2 i hi)⟩
/-- A statement that draws its order, in a round: as outside, with S. -/
theorem round_held (S : World → Prop) (aw : List Nat) {id : Nat} {a : Act} {w : World} (hm : P.follows .mixedOrders = true) (hd : noDefer l = true)
    (h : wpAnyS P .any l.toArray (OnNormal Q) S aw l.toArray.size (Array.replicate l.toArray.size false) a w.drew) : (Code.region id l.toArray true).wpIn (Fence.wide.inRound r) m P Q a w :=
  wpIn_region_any hm (round_plain hd _ _ _ _ (wpAny_of_S _ _ _ _ h))
end
end Go.Proofs.Ytecdcfmbhphagaa.TX
