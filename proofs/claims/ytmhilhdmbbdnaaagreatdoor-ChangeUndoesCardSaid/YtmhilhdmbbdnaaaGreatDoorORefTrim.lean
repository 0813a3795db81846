/-
  WALK: the document's trim.
-/
import Derived.Test.YtmhilhdmbbdnaaaGreatDoorORefWord
namespace Go.Proofs.YtmhilhdmbbdnaaaGreatDoor
open Go.RowKit
set_option maxRecDepth 100000
set_option linter.unusedVariables false

def trimOf (o : Ob) : Ob where
  handle := o.handle
  kind := o.kind
  parent := if o.kind = 1 then ⟨#[]⟩ else o.parent
  typ := if o.kind = 6 ∨ o.kind = 8 ∨ o.kind = 9 then o.typ else 0
  ref := if o.kind = 6 ∨ o.kind = 7 ∨ o.kind = 8 then o.ref else ⟨#[]⟩
  lo := if o.kind = 4 then o.lo else 0
  hi := if o.kind = 4 then o.hi else 0
  digits := if o.kind = 4 then o.digits else 0
  on := if o.kind = 5 ∨ o.kind = 6 ∨ o.kind = 7 ∨ o.kind = 8 then o.on else false
  has := if o.kind = 4 then o.has else false
  value := if o.kind = 4 then o.value else 0
  low := if o.kind = 8 then o.low else 0
  high := if o.kind = 8 then o.high else 0
  assoc := if o.kind = 9 then o.assoc else 0

set_option maxHeartbeats 4000000 in
theorem refTrim_1 (h : ByteArray) (p : ByteArray) (t : Nat) (r : ByteArray) (lo hi : Int) (dg : Nat) (on has : Bool) (v lw hg : Int) (ac : Nat) (w : World) : Calls Tryz.prog 128 #[ob ⟨h, 1, p, t, r, lo, hi, dg, on, has, v, lw, hg, ac⟩] w fun e w' => e = .returned (ob ⟨h, 1, ⟨#[]⟩, 0, ⟨#[]⟩, 0, 0, 0, false, false, 0, 0, 0, 0⟩) ∧ Below w.heap.size w w' := by
  have hb : Below w.heap.size w w := Below.refl _ _
  go_enter Tryz.func128, Tryz.ntmps128
  go_wp2
  refine ret_ob (o := ⟨h, 1, ⟨#[]⟩, 0, ⟨#[]⟩, 0, 0, 0, false, false, 0, 0, 0, 0⟩) rfl rfl rfl ?_ ⟨rfl, bAl (bAl (bAl hb _) _) _⟩
  exact AtC.al (AtC.newAt (by simp)) _
set_option maxHeartbeats 4000000 in
theorem refTrim_2 (h : ByteArray) (p : ByteArray) (t : Nat) (r : ByteArray) (lo hi : Int) (dg : Nat) (on has : Bool) (v lw hg : Int) (ac : Nat) (w : World) : Calls Tryz.prog 128 #[ob ⟨h, 2, p, t, r, lo, hi, dg, on, has, v, lw, hg, ac⟩] w fun e w' => e = .returned (ob ⟨h, 2, p, 0, ⟨#[]⟩, 0, 0, 0, false, false, 0, 0, 0, 0⟩) ∧ Below w.heap.size w w' := by
  have hb : Below w.heap.size w w := Below.refl _ _
  go_enter Tryz.func128, Tryz.ntmps128
  go_wp2
  refine ret_ob (o := ⟨h, 2, p, 0, ⟨#[]⟩, 0, 0, 0, false, false, 0, 0, 0, 0⟩) rfl rfl rfl ?_ ⟨rfl, bAl (bAl (bAl hb _) _) _⟩
  exact AtC.al (AtC.newAt (by simp)) _
set_option maxHeartbeats 4000000 in
theorem refTrim_3 (h : ByteArray) (p : ByteArray) (t : Nat) (r : ByteArray) (lo hi : Int) (dg : Nat) (on has : Bool) (v lw hg : Int) (ac : Nat) (w : World) : Calls Tryz.prog 128 #[ob ⟨h, 3, p, t, r, lo, hi, dg, on, has, v, lw, hg, ac⟩] w fun e w' => e = .returned (ob ⟨h, 3, p, 0, ⟨#[]⟩, 0, 0, 0, false, false, 0, 0, 0, 0⟩) ∧ Below w.heap.size w w' := by
  have hb : Below w.heap.size w w := Below.refl _ _
  go_enter Tryz.func128, Tryz.ntmps128
  go_wp2
  refine ret_ob (o := ⟨h, 3, p, 0, ⟨#[]⟩, 0, 0, 0, false, false, 0, 0, 0, 0⟩) rfl rfl rfl ?_ ⟨rfl, bAl (bAl (bAl hb _) _) _⟩
  exact AtC.al (AtC.newAt (by simp)) _
set_option maxHeartbeats 4000000 in
theorem refTrim_4 (h : ByteArray) (p : ByteArray) (t : Nat) (r : ByteArray) (lo hi : Int) (dg : Nat) (on has : Bool) (v lw hg : Int) (ac : Nat) (w : World) : Calls Tryz.prog 128 #[ob ⟨h, 4, p, t, r, lo, hi, dg, on, has, v, lw, hg, ac⟩] w fun e w' => e = .returned (ob ⟨h, 4, p, 0, ⟨#[]⟩, lo, hi, dg, false, has, v, 0, 0, 0⟩) ∧ Below w.heap.size w w' := by
  have hb : Below w.heap.size w w := Below.refl _ _
  go_enter Tryz.func128, Tryz.ntmps128
  go_wp2
  go_region
  go_wp2
  refine ret_ob (o := ⟨h, 4, p, 0, ⟨#[]⟩, lo, hi, dg, false, has, v, 0, 0, 0⟩) rfl rfl rfl ?_ ⟨rfl, (bAl (bAl (bAl hb _) _) _).drew⟩
  exact AtC.drew1 (AtC.al (AtC.newAt (by simp)) _)
set_option maxHeartbeats 4000000 in
theorem refTrim_5 (h : ByteArray) (p : ByteArray) (t : Nat) (r : ByteArray) (lo hi : Int) (dg : Nat) (on has : Bool) (v lw hg : Int) (ac : Nat) (w : World) : Calls Tryz.prog 128 #[ob ⟨h, 5, p, t, r, lo, hi, dg, on, has, v, lw, hg, ac⟩] w fun e w' => e = .returned (ob ⟨h, 5, p, 0, ⟨#[]⟩, 0, 0, 0, on, false, 0, 0, 0, 0⟩) ∧ Below w.heap.size w w' := by
  have hb : Below w.heap.size w w := Below.refl _ _
  go_enter Tryz.func128, Tryz.ntmps128
  go_wp2
  refine ret_ob (o := ⟨h, 5, p, 0, ⟨#[]⟩, 0, 0, 0, on, false, 0, 0, 0, 0⟩) rfl rfl rfl ?_ ⟨rfl, bAl (bAl (bAl hb _) _) _⟩
  exact AtC.al (AtC.newAt (by simp)) _
set_option maxHeartbeats 4000000 in
theorem refTrim_6 (h : ByteArray) (p : ByteArray) (t : Nat) (r : ByteArray) (lo hi : Int) (dg : Nat) (on has : Bool) (v lw hg : Int) (ac : Nat) (w : World) : Calls Tryz.prog 128 #[ob ⟨h, 6, p, t, r, lo, hi, dg, on, has, v, lw, hg, ac⟩] w fun e w' => e = .returned (ob ⟨h, 6, p, t, r, 0, 0, 0, on, false, 0, 0, 0, 0⟩) ∧ Below w.heap.size w w' := by
  have hb : Below w.heap.size w w := Below.refl _ _
  go_enter Tryz.func128, Tryz.ntmps128
  go_wp2
  refine ret_ob (o := ⟨h, 6, p, t, r, 0, 0, 0, on, false, 0, 0, 0, 0⟩) rfl rfl rfl ?_ ⟨rfl, bAl (bAl (bAl hb _) _) _⟩
  exact AtC.al (AtC.newAt (by simp)) _
set_option maxHeartbeats 4000000 in
theorem refTrim_7 (h : ByteArray) (p : ByteArray) (t : Nat) (r : ByteArray) (lo hi : Int) (dg : Nat) (on has : Bool) (v lw hg : Int) (ac : Nat) (w : World) : Calls Tryz.prog 128 #[ob ⟨h, 7, p, t, r, lo, hi, dg, on, has, v, lw, hg, ac⟩] w fun e w' => e = .returned (ob ⟨h, 7, p, 0, r, 0, 0, 0, on, false, 0, 0, 0, 0⟩) ∧ Below w.heap.size w w' := by
  have hb : Below w.heap.size w w := Below.refl _ _
  go_enter Tryz.func128, Tryz.ntmps128
  go_wp2
  refine ret_ob (o := ⟨h, 7, p, 0, r, 0, 0, 0, on, false, 0, 0, 0, 0⟩) rfl rfl rfl ?_ ⟨rfl, bAl (bAl (bAl hb _) _) _⟩
  exact AtC.al (AtC.newAt (by simp)) _
set_option maxHeartbeats 4000000 in
theorem refTrim_8 (h : ByteArray) (p : ByteArray) (t : Nat) (r : ByteArray) (lo hi : Int) (dg : Nat) (on has : Bool) (v lw hg : Int) (ac : Nat) (w : World) : Calls Tryz.prog 128 #[ob ⟨h, 8, p, t, r, lo, hi, dg, on, has, v, lw, hg, ac⟩] w fun e w' => e = .returned (ob ⟨h, 8, p, t, r, 0, 0, 0, on, false, 0, lw, hg, 0⟩) ∧ Below w.heap.size w w' := by
  have hb : Below w.heap.size w w := Below.refl _ _
  go_enter Tryz.func128, Tryz.ntmps128
  go_wp2
  go_region
  go_wp2
  refine ret_ob (o := ⟨h, 8, p, t, r, 0, 0, 0, on, false, 0, lw, hg, 0⟩) rfl rfl rfl ?_ ⟨rfl, (bAl (bAl (bAl hb _) _) _).drew⟩
  exact AtC.drew1 (AtC.al (AtC.newAt (by simp)) _)
set_option maxHeartbeats 4000000 in
theorem refTrim_9 (h : ByteArray) (p : ByteArray) (t : Nat) (r : ByteArray) (lo hi : Int) (dg : Nat) (on has : Bool) (v lw hg : Int) (ac : Nat) (w : World) : Calls Tryz.prog 128 #[ob ⟨h, 9, p, t, r, lo, hi, dg, on, has, v, lw, hg, ac⟩] w fun e w' => e = .returned (ob ⟨h, 9, p, t, ⟨#[]⟩, 0, 0, 0, false, false, 0, 0, 0, ac⟩) ∧ Below w.heap.size w w' := by
  have hb : Below w.heap.size w w := Below.refl _ _
  go_enter Tryz.func128, Tryz.ntmps128
  go_wp2
  refine ret_ob (o := ⟨h, 9, p, t, ⟨#[]⟩, 0, 0, 0, false, false, 0, 0, 0, ac⟩) rfl rfl rfl ?_ ⟨rfl, bAl (bAl (bAl hb _) _) _⟩
  exact AtC.al (AtC.newAt (by simp)) _
set_option maxHeartbeats 4000000 in
theorem refTrim_0 (h : ByteArray) (k : Nat) (p : ByteArray) (t : Nat) (r : ByteArray) (lo hi : Int) (dg : Nat) (on has : Bool) (v lw hg : Int) (ac : Nat) (w : World) (hk : k = 0 ∨ 9 < k) : Calls Tryz.prog 128 #[ob ⟨h, k, p, t, r, lo, hi, dg, on, has, v, lw, hg, ac⟩] w fun e w' => e = .returned (ob ⟨h, k, p, 0, ⟨#[]⟩, 0, 0, 0, false, false, 0, 0, 0, 0⟩) ∧ Below w.heap.size w w' := by
  have hb : Below w.heap.size w w := Below.refl _ _
  have i1 : ¬ (k : Int) = 1 := by omega
  have i4 : ¬ (k : Int) = 4 := by omega
  have i5 : ¬ (k : Int) = 5 := by omega
  have i6 : ¬ (k : Int) = 6 := by omega
  have i7 : ¬ (k : Int) = 7 := by omega
  have i8 : ¬ (k : Int) = 8 := by omega
  have i9 : ¬ (k : Int) = 9 := by omega
  clear hk
  go_enter Tryz.func128, Tryz.ntmps128
  go_wp2
  refine ret_ob (o := ⟨h, k, p, 0, ⟨#[]⟩, 0, 0, 0, false, false, 0, 0, 0, 0⟩) rfl rfl rfl ?_ ⟨rfl, bAl (bAl (bAl hb _) _) _⟩
  exact AtC.al (AtC.newAt (by simp)) _
theorem refTrim_any (o : Ob) (w : World) (hk : o.kind ≤ 255) : Calls Tryz.prog 128 #[ob o] w fun e w' => e = .returned (ob (trimOf o)) ∧ Below w.heap.size w w' := by
  obtain ⟨h, k, p, t, r, lo, hi, dg, on, has, v, lw, hg, ac⟩ := o
  change k ≤ 255 at hk
  rcases (show k = 1 ∨ k = 2 ∨ k = 3 ∨ k = 4 ∨ k = 5 ∨ k = 6 ∨ k = 7 ∨ k = 8 ∨ k = 9 ∨ (k = 0 ∨ 9 < k) by omega) with rfl | rfl | rfl | rfl | rfl | rfl | rfl | rfl | rfl | hk2
  · rw [show trimOf ⟨h, 1, p, t, r, lo, hi, dg, on, has, v, lw, hg, ac⟩ = ⟨h, 1, ⟨#[]⟩, 0, ⟨#[]⟩, 0, 0, 0, false, false, 0, 0, 0, 0⟩ from by simp [trimOf]]
    exact refTrim_1 h p t r lo hi dg on has v lw hg ac w
  · rw [show trimOf ⟨h, 2, p, t, r, lo, hi, dg, on, has, v, lw, hg, ac⟩ = ⟨h, 2, p, 0, ⟨#[]⟩, 0, 0, 0, false, false, 0, 0, 0, 0⟩ from by simp [trimOf]]
    exact refTrim_2 h p t r lo hi dg on has v lw hg ac w
  · rw [show trimOf ⟨h, 3, p, t, r, lo, hi, dg, on, has, v, lw, hg, ac⟩ = ⟨h, 3, p, 0, ⟨#[]⟩, 0, 0, 0, false, false, 0, 0, 0, 0⟩ from by simp [trimOf]]
    exact refTrim_3 h p t r lo hi dg on has v lw hg ac w
  · rw [show trimOf ⟨h, 4, p, t, r, lo, hi, dg, on, has, v, lw, hg, ac⟩ = ⟨h, 4, p, 0, ⟨#[]⟩, lo, hi, dg, false, has, v, 0, 0, 0⟩ from by simp [trimOf]]
    exact refTrim_4 h p t r lo hi dg on has v lw hg ac w
  · rw [show trimOf ⟨h, 5, p, t, r, lo, hi, dg, on, has, v, lw, hg, ac⟩ = ⟨h, 5, p, 0, ⟨#[]⟩, 0, 0, 0, on, false, 0, 0, 0, 0⟩ from by simp [trimOf]]
    exact refTrim_5 h p t r lo hi dg on has v lw hg ac w
  · rw [show trimOf ⟨h, 6, p, t, r, lo, hi, dg, on, has, v, lw, hg, ac⟩ = ⟨h, 6, p, t, r, 0, 0, 0, on, false, 0, 0, 0, 0⟩ from by simp [trimOf]]
    exact refTrim_6 h p t r lo hi dg on has v lw hg ac w
  · rw [show trimOf ⟨h, 7, p, t, r, lo, hi, dg, on, has, v, lw, hg, ac⟩ = ⟨h, 7, p, 0, r, 0, 0, 0, on, false, 0, 0, 0, 0⟩ from by simp [trimOf]]
    exact refTrim_7 h p t r lo hi dg on has v lw hg ac w
  · rw [show trimOf ⟨h, 8, p, t, r, lo, hi, dg, on, has, v, lw, hg, ac⟩ = ⟨h, 8, p, t, r, 0, 0, 0, on, false, 0, lw, hg, 0⟩ from by simp [trimOf]]
    exact refTrim_8 h p t r lo hi dg on has v lw hg ac w
  · rw [show trimOf ⟨h, 9, p, t, r, lo, hi, dg, on, has, v, lw, hg, ac⟩ = ⟨h, 9, p, t, ⟨#[]⟩, 0, 0, 0, false, false, 0, 0, 0, ac⟩ from by simp [trimOf]]
    exact refTrim_9 h p t r lo hi dg on has v lw hg ac w
  · rw [show trimOf ⟨h, k, p, t, r, lo, hi, dg, on, has, v, lw, hg, ac⟩ = ⟨h, k, p, 0, ⟨#[]⟩, 0, 0, 0, false, false, 0, 0, 0, 0⟩ from by simp only [trimOf]; simp [show ¬ k = 1 by omega, show ¬ k = 4 by omega, show ¬ k = 5 by omega, show ¬ k = 6 by omega, show ¬ k = 7 by omega, show ¬ k = 8 by omega, show ¬ k = 9 by omega]]
    exact refTrim_0 h k p t r lo hi dg on has v lw hg ac w hk2
end Go.Proofs.YtmhilhdmbbdnaaaGreatDoor
