/-
  WALKS: the library's Clone at rows; Copy, each, From of an index; the iterator that each makes.
-/
import Derived.Test.YtenjpimmjpkjbaaDoorITake
import Derived.RangeFuncNested
import Derived.RangeFuncBound
import Derived.RangeFuncBox
import Derived.RangeFuncCalls
import Derived.RangeFuncLeaves
import Derived.Shelf.Abstract
import Derived.OwnWalkIn
import Derived.TacticsInMore
import Derived.LoopNIn
import Derived.LoopIn
import Derived.Maps.AppendAt
namespace Go.Proofs.YtenjpimmjpkjbaaDoor.IX
open Go.RowKit HL
set_option maxRecDepth 100000
set_option linter.unusedVariables false
set_option linter.unusedSimpArgs false

set_option maxHeartbeats 1000000 in
theorem clone_any (A : Option Addr) (n c : Nat) (l : List Rw) (w : World) (hn : l.length = n) (hr : RdK rowK w w.heap.size A l) (hl : l.length ≤ 1000000) (h0 : A = none → n = 0 ∧ c = 0) :
    Calls Tryd.prog 60 #[.slice A n c] w fun e w' => ∃ v', e = .returned v' ∧ OwnK rowK w' w.heap.size v' l ∧ Below w.heap.size w w' := by
  cases A with
  | none =>
    obtain ⟨rfl, rfl⟩ := h0 rfl
    obtain rfl : l = [] := List.eq_nil_of_length_eq_zero hn
    clear hr h0 hn hl
    have HE : ∀ W, (binOp .eql 82 (.slice none 0 0) (.slice none 0 0)).run Tryd.prog W = .ok (.bool true) W := fun W => Lib.run_eql_slice_nil W _ _ none 0 0 0 0 Tryd.underlying82
    go_enter Tryd.func60, Tryd.ntmps60
    go_wp2
    go_ret
    exact ⟨_, rfl, OwnK.nil_ _ _ _, Below.refl _ _⟩
  | some a =>
    have HR := Lib.hid hr
    have HN := Lib.hid hn
    have hb : Below w.heap.size w (w.alloc (.cells #[] 81)) := (Below.refl _ _).alloc (Nat.le_refl _) _
    have HB := Lib.hid hb
    clear hr h0 hn hb
    have HE : ∀ W, (binOp .eql 82 (.slice (some a) n c) (.slice none 0 0)).run Tryd.prog W = .ok (.bool false) W := fun W => Lib.run_eql_slice_nil W _ _ (some a) n c 0 0 Tryd.underlying82
    go_enter Tryd.func60, Tryd.ntmps60
    go_wp2_with (at_builtin; refine wpList_spreadK rowK rfl (.tmp 5) (.tmp 6) rfl w.heap.size _ [] rfl (OwnK.lit w w.heap.size (Nat.le_refl _)) w.heap.size (some a) n c l rfl HN.out (HR.out.below HB.out) ?c1 ?c2 ?_)
    case c1 => simp; omega
    case c2 => simp
    intro v2 w2 o2 g2 f2
    have hb2 : Below w.heap.size w w2 := HB.out.grown g2 HB.out.size (fun k hk => by simp [Value.ownBlock] at hk; omega)
    obtain ⟨A2, c2, rfl, _, _⟩ := o2.form
    have O2 := Lib.hid o2
    clear o2 g2 f2
    go_wp2
    go_ret
    exact ⟨_, rfl, O2.out, hb2⟩
set_option maxHeartbeats 1000000 in
theorem copy_any (B : Nat) (v : Value) (l : List Rw) (w : World) (hA : IxAt w B v l) (hn : l.length ≤ 1000000) :
    Calls Tryd.prog 46 #[ptr B] w fun e w' => ∃ B' v', e = .returned (ptr B') ∧ IxAt w' B' v' l ∧ w.heap.size ≤ B' ∧ (∀ k, v'.ownBlock = some k → w.heap.size ≤ k) ∧ Below w.heap.size w w' := by
  obtain ⟨A, c, rfl, rd, _, _⟩ := OwnK.form (K := rowK) hA.r
  have h0 : A = none → l.length = 0 ∧ c = 0 := fun e => by
    subst e
    rcases hA.r.2 with ⟨e, h⟩ | ⟨g, cap, cur, e, _⟩
    · simp at e; exact ⟨h, e.2⟩
    · simp at e
  have CM := Lib.hid (made_any B _ w hA.a)
  have CC := Lib.hid (clone_any A l.length c l w rfl rd hn h0)
  have CH := Lib.hid (fun W A c ho => holding_any A c l W ho hA.up)
  have c1 := ix_c1 hA.a
  clear hA rd h0
  go_enter Tryd.func46, Tryd.ntmps46
  go_wp2_with (first
    | (go_at_call 55; ((with_reducible refine CM.out.mono ?_); rintro e w1 ⟨rfl, rfl⟩))
    | (go_at_call 60; ((with_reducible refine CC.out.mono ?_); rintro e w2 ⟨v2, rfl, o2, k2⟩; obtain ⟨A2, c2, rfl, _, _⟩ := o2.form; have O2 := Lib.hid o2; clear o2))
    | (go_at_call 63; ((with_reducible refine (CH.out _ A2 c2 (OwnP.k.2 (O2.out.base (Nat.zero_le _)))).mono ?_); rintro e w3 ⟨rfl, a3, k3⟩; have A3 := Lib.hid a3; clear a3)))
  go_ret
  exact ⟨_, _, rfl, A3.out, k2.size, fun k hk => (O2.out.lt k hk).1, bThen k2 k3⟩
theorem each_any (v : Value) (A : Option Addr) (n c : Nat) (hv : v = .slice A n c) (w : World) : Calls Tryd.prog 59 #[v] w fun e w' => e = .returned (.func (.func 70) #[] #[.pointer (some ⟨w.heap.size, 0, none⟩)]) ∧ w.alloc (.cells #[v] 82) = w' := by
  subst hv
  go_enter Tryd.func59, Tryd.ntmps59
  go_wp2
  go_ret
  exact ⟨rfl, rfl⟩
/-- What From gives: an iterator over rows of its own. -/
structure Iter (w : World) (base Bb : Nat) (A : Option Addr) (c : Nat) (l : List Rw) : Prop where
  box : Boxed w Bb 82 (.slice A l.length c)
  own : OwnK rowK w base (.slice A l.length c) l
  lo : base ≤ Bb
  ne : (Value.slice A l.length c).ownBlock ≠ some Bb
set_option maxHeartbeats 1000000 in
theorem from_any (B : Nat) (v : Value) (l : List Rw) (h : Bs) (w : World) (hA : IxAt w B v l) (hn : l.length ≤ 1000000) :
    Calls Tryd.prog 41 #[ptr B, str h] w fun e w' => ∃ Bb A c, e = .returned (.func (.func 70) #[] #[.pointer (some ⟨Bb, 0, none⟩)]) ∧ Iter w' w.heap.size Bb A c (l.drop (plc l h)) ∧ Below w.heap.size w w' := by
  obtain ⟨A, c, rfl, rd, hc, _⟩ := OwnK.form (K := rowK) hA.r
  have h0 : A = none → l.length = 0 ∧ c = 0 := fun e => by
    subst e
    rcases hA.r.2 with ⟨e, h⟩ | ⟨g, cap, cur, e, _⟩
    · simp at e; exact ⟨h, e.2⟩
    · simp at e
  have hpl := plc_le l h
  have CP := Lib.hid (place_any B _ l h w hA hn)
  have CH := Lib.hid (held_any B _ w hA.a)
  obtain ⟨A2, c2, s2, r2, _, _, _, n2⟩ := slice_fromK rowK rd rfl (p := plc l h) hpl hc
  have s2' : ∀ W, (Instr.slice 82 (.slice A l.length c) (some (.int .i64 (plc l h : Int))) none none).run Tryd.prog W = .ok (.slice A2 (l.length - plc l h) c2) W := s2
  have hA2 : A2 = none → l.length - plc l h = 0 ∧ c2 = 0 := fun e => by
    cases A with
    | some a => exact absurd e (n2 (by simp))
    | none =>
      obtain ⟨q1, q2⟩ := h0 rfl
      refine ⟨by omega, ?_⟩
      have q := s2 w
      rw [run_slice_l w rowK.T none l.length c (under_K rowK) .i64 (plc l h : Int) (by omega) (by omega), rowK.el, size_K] at q
      simp [Result.andThen, sliced] at q
      omega
  have CC := Lib.hid (fun W (q : Below w.heap.size w W) => clone_any A2 (l.length - plc l h) c2 (l.drop (plc l h)) W (by simp) (((r2 _ rd).below q).more q.size) (by simp; omega) hA2)
  have CE := Lib.hid each_any
  have HL : Hid ((l.drop (plc l h)).length = l.length - plc l h) := Lib.hid (by simp)
  clear hA rd h0 s2 r2 n2 hA2
  generalize l.drop (plc l h) = d at *
  generalize plc l h = p at *
  go_enter Tryd.func41, Tryd.ntmps41
  go_wp2_with (first
    | (go_at_call 58; ((with_reducible refine CH.out.mono ?_); rintro e w1 ⟨rfl, rfl⟩))
    | (go_at_call 61; ((with_reducible refine CP.out.mono ?_); rintro e w2 ⟨rfl, k2⟩))
    | (go_at_call 60; ((with_reducible refine (CC.out _ k2).mono ?_); rintro e w3 ⟨v3, rfl, o3, k3⟩; obtain ⟨A3, c3, rfl, _, _⟩ := o3.form; have O3 := Lib.hid o3; clear o3))
    | (go_at_call 59; ((with_reducible refine (CE.out _ A3 _ c3 rfl _).mono ?_); rintro e w4 ⟨rfl, rfl⟩)))
  go_ret
  have hb := bThen k2 k3
  refine ⟨_, A3, c3, rfl, ⟨Boxed.new _ _ _, (O3.out.base k2.size).below ((Below.refl _ _).alloc (Nat.le_refl _) _), hb.size, ?_⟩, bAl hb _⟩
  intro e
  have := (O3.out.lt _ e).2
  omega
end Go.Proofs.YtenjpimmjpkjbaaDoor.IX
