/-
  PLAIN: a statement that draws its order, in a round of a range over a function: what only reads comes first, in the text's order; then the rest, one behind the other.
-/
import Derived.Test.YtecdcfmbhphagaaGKit
import Derived.StillTailTactics
import Derived.OrdersIn
import Derived.TacticsIn
import Derived.RangeFuncCalls
namespace Go.Proofs.Ytecdcfmbhphagaa.TX
open Go.RowKit
set_option maxRecDepth 100000
set_option linter.unusedVariables false
set_option linter.unusedSimpArgs false

def noDefer (l : List Oper) : Bool := l.all fun o => match o.op with | .defer _ => false | _ => true
theorem noDefer_of {l : List Oper} (h : noDefer l = true) {o : Oper} (ho : o ∈ l) : ∀ c, o.op ≠ .defer c := fun c e => by
  have := List.all_eq_true.1 h o ho
  rw [e] at this
  cases this
section
variable {P : Program} {l : List Oper} {md : Region.Mode} {w : World} {r m : Nat} {Q : Exit → Act → World → Prop}
theorem round_op (hd : noDefer l = true) {i : Nat} {a : Act} {K : Act → Prop} {K' : Act → World → Prop} (h : ∀ a, K a → K' a w) (hh : stOp P l.toArray w i K a) : wpOpIn (Fence.wide.inRound r) m P l.toArray Q i K' a w := by
  unfold stOp at hh
  unfold wpOpIn
  cases ho : l.toArray[i]? with
  | none => simp only [ho] at hh ⊢; exact h _ hh
  | some o =>
    have hmem : o ∈ l := by simpa using Array.mem_of_getElem? ho
    simp only [ho] at hh ⊢
    by_cases hw : Region.wanted o (yielded l.toArray a.tmps) = true
    · rw [if_pos hw] at hh ⊢
      refine ⟨fun _ _ => trivial, ?_⟩
      rw [Oper.semAt_eq _ _ _ (noDefer_of hd hmem)]
      unfold Oper.still at hh
      generalize (execOp a.eval o).run P w = x at hh
      cases x with
      | halt x w' => cases hh
      | ok x w' =>
        cases x with
        | value v => obtain ⟨rfl, q⟩ := hh; exact h _ q
        | skip => obtain ⟨rfl, q⟩ := hh; exact h _ q
        | enter f args =>
          obtain ⟨rfl, v, hc, q⟩ := hh
          refine ⟨fun e => (by cases e), CallsIn.inRound r (callsIn_wide.2 hc) |>.mono ?_⟩
          rintro e w'' ⟨rfl, rfl⟩
          exact h _ q
        | _ => cases hh
    · rw [if_neg hw] at hh ⊢
      exact ⟨fun _ _ => trivial, h _ hh⟩
theorem round_head (hd : noDefer l = true) {n g : Nat} {G : Array Bool → Act → Prop} (hG : ∀ listed a, G listed a → wpAnyIn (Fence.wide.inRound r) m P md l.toArray Q g listed a w) (f : Nat) :
    ∀ (listed : Array Bool) (a : Act), wpAnyL P md l.toArray w n G f listed a → wpAnyIn (Fence.wide.inRound r) m P md l.toArray Q (f + g) listed a w := by
  induction f with
  | zero => intro listed a h; rw [Nat.zero_add]; exact hG _ _ h
  | succ f ih =>
    intro listed a h
    rw [Nat.add_right_comm]
    exact ⟨fun e => absurd e h.1, fun i hi => round_op hd (fun a' q => ih _ a' q) (h.2 i hi).2⟩
theorem round_seq {ops : Array Oper} {F : Fence} (t : List Oper) : ∀ (k : Nat) (listed : Array Bool) (a : Act) (w : World), (∀ j, t[j]? = ops[k + j]?) → Region.seqB md ops t.length k listed = true → wpListIn F m P ops Q t a w → wpAnyIn F m P md ops Q t.length listed a w := by
  induction t with
  | nil => intro k listed a w _ hB h; exact ⟨by simpa [Region.seqB] using hB, h⟩
  | cons o t ih =>
    intro k listed a w hl hB h
    have h0 : ops[k]? = some o := by simpa using (hl 0).symm
    simp only [List.length_cons, Region.seqB, Bool.and_eq_true, decide_eq_true_eq] at hB
    refine ⟨fun e => (by rw [hB.1] at e; cases e), fun i hi => ?_⟩
    obtain rfl : i = k := by rw [hB.1] at hi; simpa using hi
    have q : wpOpIn F m P ops Q i (wpListIn F m P ops Q t) a w := by unfold wpOpIn; simp only [h0]; exact h
    exact wpOpIn_mono (fun a' w' h' => ih (i + 1) _ a' w' (fun j => by have := hl (j + 1); rw [show i + 1 + j = i + (j + 1) by omega, ← this]; simp) hB.2 h') q
theorem round_region {id : Nat} {a : Act} (n : Nat) (hm : P.follows .mixedOrders = true) (hd : noDefer l = true) (hB : Region.lexTailB .any l.toArray n = true)
    (h : wpStill P l.toArray w.drew (fun a' => wpListIn (Fence.wide.inRound r) m P l.toArray Q (l.drop n) a' w.drew) (l.take n) a) : (Code.region id l.toArray true).wpIn (Fence.wide.inRound r) m P Q a w := by
  simp only [Region.lexTailB, Bool.and_eq_true, decide_eq_true_eq] at hB
  obtain ⟨⟨⟨⟨b1, b2⟩, b3⟩, b4⟩, b5⟩ := hB
  have hn : n < l.length := by simpa using b2
  have z1 : (l.take n).length = n := by rw [List.length_take]; omega
  have z2 : (l.drop n).length = l.toArray.size - n := by simp
  have inv : HeadInv .any l.toArray n (Array.replicate l.toArray.size false) := by
    refine ⟨by simp, fun j oj _ hl => ?_, fun t _ ht => getD_in (by simpa using ht) (getD_replicate_false _ _)⟩
    rw [getD_replicate_false] at hl; cases hl
  have H := wpAnyL_lex (md := .any) (g := l.toArray.size - n) b1 b3 b4 b2 (l.take n) 0 _ a (fun j hj => by
    rw [z1] at hj
    rw [Nat.zero_add, List.getElem?_take, if_pos hj]; simp) (by rw [z1]; omega) inv (by rw [z1]; exact b5) h
  refine wpIn_region_any hm ?_
  have key := round_head (m := m) (r := r) (Q := Q) hd (g := l.toArray.size - n) (fun listed a' q => by
    have := round_seq (md := .any) (Q := Q) (F := Fence.wide.inRound r) (m := m) (l.drop n) n listed a' w.drew (fun j => by simp [List.getElem?_drop]) (by rw [z2]; exact q.1) q.2
    rwa [z2] at this) _ _ _ H
  rw [z1, show n + (l.toArray.size - n) = l.toArray.size by simp; omega] at key
  exact key
end
end Go.Proofs.Ytecdcfmbhphagaa.TX
