/-
  WALK: the law HandleRows.
-/
import Derived.Test.YtlbeaofnolaooaaHRefSort
import Derived.Test.YtlbeaofnolaooaaHSpoil
namespace Go.Proofs.Ytlbeaofnolaooaa
open Go.RowKit
set_option maxRecDepth 100000
set_option linter.unusedVariables false
set_option linter.unusedSimpArgs false

theorem RowG.below {w w' : World} {g cap : Nat} {zs : List Bs} (h : RowG w g cap zs) (hb : Below w.heap.size w w') : RowG w' g cap zs := own_below h hb
theorem RowG.beside {w w' : World} {g cap k : Nat} {zs : List Bs} (h : RowG w g cap zs) (hg : w.grownBy w' (some k)) (hne : g ≠ k) : RowG w' g cap zs :=
  World.ownsRow.kept (show w.ownsRow _ _ _ _ _ _ from h) hg (.inr (fun e => hne (Option.some.inj e)))
/-- What stands while the round's calls are made. -/
structure RC (wr : World) (A1 A2 A5 A6 : Option Addr) (xs ys : List Bs) (W : World) : Prop where
  b : Below wr.heap.size wr W
  i1 : Strs wr wr.heap.size A1 xs
  i2 : Strs wr wr.heap.size A2 ys
  i5 : Strs wr wr.heap.size A5 xs
  i6 : Strs wr wr.heap.size A6 ys
theorem RC.step {wr W W' : World} {A1 A2 A5 A6 : Option Addr} {xs ys : List Bs} (h : RC wr A1 A2 A5 A6 xs ys W) (hb : Below W.heap.size W W') : RC wr A1 A2 A5 A6 xs ys W' :=
  ⟨h.b.trans (hb.mono h.b.size), h.i1, h.i2, h.i5, h.i6⟩
theorem RC.s1 {wr W : World} {A1 A2 A5 A6 : Option Addr} {xs ys : List Bs} (h : RC wr A1 A2 A5 A6 xs ys W) : Strs W W.heap.size A1 xs := (h.i1.below h.b).more h.b.size
theorem RC.s2 {wr W : World} {A1 A2 A5 A6 : Option Addr} {xs ys : List Bs} (h : RC wr A1 A2 A5 A6 xs ys W) : Strs W W.heap.size A2 ys := (h.i2.below h.b).more h.b.size
theorem RC.s5 {wr W : World} {A1 A2 A5 A6 : Option Addr} {xs ys : List Bs} (h : RC wr A1 A2 A5 A6 xs ys W) : Strs W W.heap.size A5 xs := (h.i5.below h.b).more h.b.size
theorem RC.s6 {wr W : World} {A1 A2 A5 A6 : Option Addr} {xs ys : List Bs} (h : RC wr A1 A2 A5 A6 xs ys W) : Strs W W.heap.size A6 ys := (h.i6.below h.b).more h.b.size
theorem sameB_self (l : List Bs) : sameB l l = true := by unfold sameB; simp
/-- Same of two rows with the same texts. -/
theorem same_self (A1 A2 : Option Addr) (c1 c2 : Nat) (l : List Bs) (W : World) (h1 : Strs W W.heap.size A1 l) (h2 : Strs W W.heap.size A2 l) (hn : l.length ≤ 1000) :
    Calls Try.prog 14 #[.slice A1 l.length c1, .slice A2 l.length c2] W fun e w' => e = .returned (.bool true) ∧ Below W.heap.size W w' := by
  have h := same_any A1 A2 c1 c2 l l W W.heap.size h1 h2 (by unfold maxLen; omega) (by unfold maxLen; omega)
  rw [sameB_self] at h
  exact h.mono fun _ _ k => ⟨k.1, k.2.below _⟩
theorem withoutU_len (xs ys : List Bs) : (withoutU xs ys).length ≤ xs.length := Nat.le_trans (List.length_filter_le _ _) (sortU_len xs)
-- THE LAW
theorem refSort_f (A : Option Addr) (c : Nat) (xs : List Bs) (W : World) (h : Strs W W.heap.size A xs) (hn : xs.length ≤ 200) (he : ∀ x ∈ xs, x.length ≤ 100) :
    Calls Try.prog 23 #[.slice A xs.length c] W fun e w' => ∃ v, e = .returned v ∧ OwnS w' W.heap.size v (sortU xs) ∧ Below W.heap.size W w' := refSort_any A c xs W h hn he
/-- The three rows of the round, each in a block of its own. -/
structure RR (wr : World) (g1 p1 g2 p2 g3 p3 : Nat) (xs ys : List Bs) (W : World) : Prop where
  b : Below wr.heap.size wr W
  r1 : RowG W g1 p1 (sortU xs)
  r2 : RowG W g2 p2 (sortU (xs ++ ys))
  r3 : RowG W g3 p3 (withoutU xs ys)
  l1 : wr.heap.size ≤ g1
  l2 : wr.heap.size ≤ g2
  l3 : wr.heap.size ≤ g3
  n12 : g1 ≠ g2
  n13 : g1 ≠ g3
  n23 : g2 ≠ g3
theorem RR.step {wr W W' : World} {g1 p1 g2 p2 g3 p3 : Nat} {xs ys : List Bs} (h : RR wr g1 p1 g2 p2 g3 p3 xs ys W) (hb : Below W.heap.size W W') : RR wr g1 p1 g2 p2 g3 p3 xs ys W' :=
  ⟨h.b.trans (hb.mono h.b.size), h.r1.below hb, h.r2.below hb, h.r3.below hb, h.l1, h.l2, h.l3, h.n12, h.n13, h.n23⟩
/-- .. and what is left of them as they are written over. -/
structure RR2 (wr : World) (g2 p2 g3 p3 : Nat) (xs ys : List Bs) (W : World) : Prop where
  r2 : RowG W g2 p2 (sortU (xs ++ ys))
  r3 : RowG W g3 p3 (withoutU xs ys)
  l2 : wr.heap.size ≤ g2
  l3 : wr.heap.size ≤ g3
  n23 : g2 ≠ g3
structure RR3 (wr : World) (g3 p3 : Nat) (xs ys : List Bs) (W : World) : Prop where
  r3 : RowG W g3 p3 (withoutU xs ys)
  l3 : wr.heap.size ≤ g3
theorem RR.r1grew {wr W W' : World} {g1 p1 g2 p2 g3 p3 : Nat} {xs ys : List Bs} (h : RR wr g1 p1 g2 p2 g3 p3 xs ys W) (hg : W.grownBy W' (some g1)) : RR2 wr g2 p2 g3 p3 xs ys W' :=
  ⟨h.r2.beside hg (Ne.symm h.n12), h.r3.beside hg (Ne.symm h.n13), h.l2, h.l3, h.n23⟩
theorem RR2.r2grew {wr W W' : World} {g2 p2 g3 p3 : Nat} {xs ys : List Bs} (h : RR2 wr g2 p2 g3 p3 xs ys W) (hg : W.grownBy W' (some g2)) : RR3 wr g3 p3 xs ys W' :=
  ⟨h.r3.beside hg (Ne.symm h.n23), h.l3⟩
theorem RR3.r3grew {wr W W' : World} {g3 p3 : Nat} {xs ys : List Bs} (h : RR3 wr g3 p3 xs ys W) (hg : W.grownBy W' (some g3)) : True := trivial
theorem RC.grew {wr W W' : World} {A1 A2 A5 A6 : Option Addr} {xs ys : List Bs} {g : Nat} (h : RC wr A1 A2 A5 A6 xs ys W) (hg : W.grownBy W' (some g)) (hl : wr.heap.size ≤ g) : RC wr A1 A2 A5 A6 xs ys W' :=
  ⟨h.b.grown hg h.b.size (fun q hq => by cases hq; exact hl), h.i1, h.i2, h.i5, h.i6⟩
theorem rows_long (A1 A2 : Option Addr) (c1 c2 : Nat) (xs ys : List Bs) (w : World) (h1 : Strs w w.heap.size A1 xs) (h2 : Strs w w.heap.size A2 ys) (hn : xs.length ≤ maxLen) (hm : ys.length ≤ maxLen) (he1 : ∀ x ∈ xs, x.length ≤ maxLen) (he2 : ∀ x ∈ ys, x.length ≤ maxLen)
    (h : longB xs = true ∨ (longB xs = false ∧ longB ys = true)) :
    Calls Try.prog 4 #[.slice A1 xs.length c1, .slice A2 ys.length c2] w fun e w' => e = .returned (.bool true) ∧ Below w.heap.size w w' := by
  have C1 := Lib.hid (long_any A1 c1 xs w.heap.size w h1 hn he1)
  have C2 := Lib.hid (long_any A2 c2 ys w.heap.size w h2 hm he2)
  clear h1 h2 he1 he2 hn hm
  rcases h with f1 | ⟨f1, f2⟩
  all_goals
    go_enter Try.func4, Try.ntmps4
    go_wp2_with (go_at_call 17; (first | (with_reducible refine C1.out.mono ?_) | (with_reducible refine C2.out.mono ?_)); rintro e w1 ⟨rfl, rfl⟩)
    go_ret
    exact ⟨rfl, Below.refl _ _⟩

set_option maxHeartbeats 16000000 in
theorem rows_yes (A1 A2 : Option Addr) (c1 c2 : Nat) (xs ys : List Bs) (w : World) (h1 : Strs w w.heap.size A1 xs) (h2 : Strs w w.heap.size A2 ys) (f1 : longB xs = false) (f2 : longB ys = false) :
    Calls Try.prog 4 #[.slice A1 xs.length c1, .slice A2 ys.length c2] w fun e w' => e = .returned (.bool true) ∧ Below w.heap.size w w' := by
  obtain ⟨hn, he1⟩ := longB_out f1
  obtain ⟨hm, he2⟩ := longB_out f2
  have C1 := Lib.hid (long_any A1 c1 xs w.heap.size w h1 (by unfold maxLen; omega) (fun x hx => by have := he1 x hx; unfold maxLen; omega))
  have C2 := Lib.hid (long_any A2 c2 ys w.heap.size w h2 (by unfold maxLen; omega) (fun x hx => by have := he2 x hx; unfold maxLen; omega))
  have H1 := Lib.hid h1
  have H2 := Lib.hid h2
  have E1 := Lib.hid he1
  have E2 := Lib.hid he2
  clear h1 h2 he1 he2
  go_enter Try.func4, Try.ntmps4
  go_wp2_with (first
    | (go_at_call 17; (first | (with_reducible refine C1.out.mono ?_) | (with_reducible refine C2.out.mono ?_)); rintro e w1 ⟨rfl, rfl⟩)
    | (at_builtin; refine wpList_spread _ rfl _ _ rfl w.heap.size _ [] rfl (OwnS.lit w w.heap.size (Nat.le_refl _)) w.heap.size A1 c1 xs rfl (H1.out.below ((Below.refl _ w).alloc (Nat.le_refl _) _)) (by simp; omega) (by simp) ?_))
  intro v5 w1 o5 g5
  have b1 : Below w.heap.size w w1 := ((Below.refl w.heap.size w).alloc (Nat.le_refl _) _).grown g5 (by simp) (fun q hq => by simp [Value.ownBlock] at hq; omega)
  have hz1 : w.heap.size ≤ w1.heap.size := b1.size
  have O5 := Lib.hid o5
  have B1 := Lib.hid b1
  clear o5 g5 b1
  go_wp2_with (at_builtin; refine wpList_spread _ rfl _ _ rfl w1.heap.size _ [] rfl (OwnS.lit w1 w1.heap.size (Nat.le_refl _)) w.heap.size A2 c2 ys rfl (H2.out.below (B1.out.alloc hz1 _)) (by simp; omega) (by simp) ?_)
  intro v6 w2 o6 g6
  have b2 : Below w1.heap.size w1 w2 := ((Below.refl w1.heap.size w1).alloc (Nat.le_refl _) _).grown g6 (by simp) (fun q hq => by simp [Value.ownBlock] at hq; omega)
  have O52 := Lib.hid (O5.out.below b2)
  have O62 := Lib.hid (o6.base hz1)
  have B2 := Lib.hid (B1.out.trans (b2.mono hz1))
  clear o6 g6 b2 O5 B1 hz1
  obtain ⟨A5, c5, rfl, s5, _, _⟩ := O52.out.form
  obtain ⟨A6, c6, rfl, s6, _, _⟩ := O62.out.form
  have I0 : Hid (RC w2 A1 A2 A5 A6 xs ys w2) := Lib.hid ⟨Below.refl _ _, (H1.out.below B2.out).more B2.out.size, (H2.out.below B2.out).more B2.out.size, s5, s6⟩
  clear s5 s6 O52 O62 H1 H2
  go_wp2
  go_loopw [7] (fun t wr => ∃ k : Nat, t = .int .i64 k ∧ k ≤ 2 ∧ Hid (RC w2 A1 A2 A5 A6 xs ys wr)) (fun t _ => 2 - (intOf t).toNat)
  case atStart => exact ⟨0, rfl, by omega, I0⟩
  case round =>
    obtain ⟨k, rfl, hk, I1⟩ := hrel
    by_cases hlt : k < 2
    · have hB := Lib.hid (Below.refl wr.heap.size wr)
      go_wp2_with (go_at_call 18; ((with_reducible refine (sort_any A5 c5 xs _ I1.out.s5 (by omega)).mono ?_); rintro e w3 ⟨g1, p1, rfl, hg1, r1, b3⟩))
      have I3 := Lib.hid (I1.out.step b3)
      have R1 := Lib.hid r1
      have HB := Lib.hid b3
      have hz3 := r1.lt
      clear r1 b3
      go_wp2_with (go_at_call 19; ((with_reducible refine (merge_any A5 A6 c5 c6 xs ys _ I3.out.s5 I3.out.s6 (by omega) (by omega)).mono ?_); rintro e w4 ⟨g2, p2, rfl, hg2, r2, b4⟩))
      have I4 := Lib.hid (I3.out.step b4)
      have R2 := Lib.hid r2
      have R1b := Lib.hid (R1.out.below b4)
      have HB4 := Lib.hid (HB.out.trans (b4.mono HB.out.size))
      have hz4 := r2.lt
      clear r2 b4 R1 HB I3
      go_wp2_with (go_at_call 20; ((with_reducible refine (without_any A5 A6 c5 c6 xs ys _ I4.out.s5 I4.out.s6 (by omega) (by omega)).mono ?_); rintro e w5 ⟨g3, p3, rfl, hg3, r3, b5⟩))
      have R := Lib.hid (show RR wr g1 p1 g2 p2 g3 p3 xs ys w5 from ⟨HB4.out.trans (b5.mono HB4.out.size), R1b.out.below b5, R2.out.below b5, r3, hg1, by have := HB4.out.size; omega, by have := HB4.out.size; omega, by omega, by omega, by omega⟩)
      have I5 := Lib.hid (I4.out.step b5)
      clear r3 b5 R1b R2 HB4 I4 hg1 hg2 hg3 hz3 hz4
      go_wp2_with (go_at_call 21; ((with_reducible refine (rising_any A5 c5 xs _ _ I5.out.s5 (by unfold maxLen; omega)).mono ?_); rintro e w6 ⟨rfl, d6⟩))
      have I6 := Lib.hid (I5.out.step (d6.below _))
      replace R := Lib.hid (R.out.step (d6.below _))
      clear d6
      clear I5
      go_wp2_with (go_at_call 22; ((with_reducible refine (refRising_any A1 c1 xs _ _ I6.out.s1 (by unfold maxLen; omega) (fun x hx => by have := E1.out x hx; unfold maxLen; omega)).mono ?_); rintro e w7 ⟨rfl, d7⟩))
      have I7 := Lib.hid (I6.out.step (d7.below _))
      replace R := Lib.hid (R.out.step (d7.below _))
      clear d7
      clear I6
      go_wp2_with (go_at_call 23; ((with_reducible refine (refSort_f A1 c1 xs _ I7.out.s1 (by omega) E1.out).mono ?_); rintro e w8 ⟨v8, rfl, o8, b8⟩))
      have I8 := Lib.hid (I7.out.step (b8))
      replace R := Lib.hid (R.out.step (b8))
      obtain ⟨A8, c8, rfl, s8, _, _⟩ := o8.form
      have S8 := Lib.hid s8
      clear o8 b8 s8
      clear I7
      go_wp2_with (go_at_call 14; ((with_reducible refine (same_self _ A8 _ c8 (sortU xs) _ (R.out.r1.strs) S8.out (by have := sortU_len xs; omega)).mono ?_); rintro e w9 ⟨rfl, b9⟩))
      have I9 := Lib.hid (I8.out.step (b9))
      replace R := Lib.hid (R.out.step (b9))
      clear b9 S8
      clear I8
      go_wp2_with (go_at_call 24; ((with_reducible refine (refMerge_any refSort_any A1 A2 c1 c2 xs ys _ I9.out.s1 I9.out.s2 hn hm E1.out E2.out).mono ?_); rintro e w10 ⟨v10, rfl, o10, b10⟩))
      have I10 := Lib.hid (I9.out.step (b10))
      replace R := Lib.hid (R.out.step (b10))
      obtain ⟨A10, c10, rfl, s10, _, _⟩ := o10.form
      have S10 := Lib.hid s10
      clear o10 b10 s10
      clear I9
      go_wp2_with (go_at_call 14; ((with_reducible refine (same_self _ A10 _ c10 (sortU (xs ++ ys)) _ (R.out.r2.strs) S10.out (by have := (by have := sortU_len (xs ++ ys); rw [List.length_append] at this; exact this : (sortU (xs ++ ys)).length ≤ xs.length + ys.length); omega)).mono ?_); rintro e w11 ⟨rfl, b11⟩))
      have I11 := Lib.hid (I10.out.step (b11))
      replace R := Lib.hid (R.out.step (b11))
      clear b11 S10
      clear I10
      go_wp2_with (go_at_call 25; ((with_reducible refine (refWithout_any refSort_any A1 A2 c1 c2 xs ys _ I11.out.s1 I11.out.s2 (by omega) (by omega) E1.out).mono ?_); rintro e w12 ⟨v12, rfl, o12, b12⟩))
      have I12 := Lib.hid (I11.out.step (b12))
      replace R := Lib.hid (R.out.step (b12))
      obtain ⟨A12, c12, rfl, s12, _, _⟩ := o12.form
      have S12 := Lib.hid s12
      clear o12 b12 s12
      clear I11
      go_wp2_with (go_at_call 14; ((with_reducible refine (same_self _ A12 _ c12 (withoutU xs ys) _ (R.out.r3.strs) S12.out (by have := withoutU_len xs ys; omega)).mono ?_); rintro e w13 ⟨rfl, b13⟩))
      have I13 := Lib.hid (I12.out.step (b13))
      replace R := Lib.hid (R.out.step (b13))
      clear b13 S12
      clear I12
      go_wp2_with (go_at_call 14; ((with_reducible refine (same_self A5 A1 c5 c1 xs _ I13.out.s5 I13.out.s1 (by omega)).mono ?_); rintro e w14 ⟨rfl, b14⟩))
      have I14 := Lib.hid (I13.out.step (b14))
      replace R := Lib.hid (R.out.step (b14))
      clear b14
      clear I13
      go_wp2_with (go_at_call 14; ((with_reducible refine (same_self A6 A2 c6 c2 ys _ I14.out.s6 I14.out.s2 (by omega)).mono ?_); rintro e w15 ⟨rfl, b15⟩))
      have I15 := Lib.hid (I14.out.step (b15))
      replace R := Lib.hid (R.out.step (b15))
      clear b15
      clear I14
      go_wp2_with (go_at_call 26; ((with_reducible refine (spoil_row g1 p1 (sortU xs) _ R.out.r1 (by have := sortU_len xs; omega)).mono ?_); rintro e w16 ⟨rfl, g116⟩))
      have I16 := Lib.hid (I15.out.grew g116 (by have := I1.out.b.size; have := R.out.l1; omega))
      replace R := Lib.hid (R.out.r1grew g116)
      clear g116 I15
      go_wp2_with (go_at_call 26; ((with_reducible refine (spoil_row g2 p2 (sortU (xs ++ ys)) _ R.out.r2 (by have := (by have := sortU_len (xs ++ ys); rw [List.length_append] at this; exact this : (sortU (xs ++ ys)).length ≤ xs.length + ys.length); omega)).mono ?_); rintro e w17 ⟨rfl, g117⟩))
      have I17 := Lib.hid (I16.out.grew g117 (by have := I1.out.b.size; have := R.out.l2; omega))
      replace R := Lib.hid (R.out.r2grew g117)
      clear g117 I16
      go_wp2_with (go_at_call 26; ((with_reducible refine (spoil_row g3 p3 (withoutU xs ys) _ R.out.r3 (by have := withoutU_len xs ys; omega)).mono ?_); rintro e w18 ⟨rfl, g118⟩))
      have I18 := Lib.hid (I17.out.grew g118 (by have := I1.out.b.size; have := R.out.l3; omega))
      replace R := Lib.hid (R.out.r3grew g118)
      clear g118 I17
      go_wp2
      go_roundw
      case rel => exact ⟨k + 1, by go_num, by omega, I18⟩
      case measure => simp [intOf]; omega
    · go_wp2
      go_ret
      exact ⟨rfl, B2.out.trans (I1.out.b.mono B2.out.size)⟩

theorem rows_walk (A1 A2 : Option Addr) (c1 c2 : Nat) (xs ys : List Bs) (w : World) (h1 : Strs w w.heap.size A1 xs) (h2 : Strs w w.heap.size A2 ys) (hn : xs.length ≤ maxLen) (hm : ys.length ≤ maxLen) (he1 : ∀ x ∈ xs, x.length ≤ maxLen) (he2 : ∀ x ∈ ys, x.length ≤ maxLen) :
    Calls Try.prog 4 #[.slice A1 xs.length c1, .slice A2 ys.length c2] w fun e w' => e = .returned (.bool true) ∧ Below w.heap.size w w' := by
  cases f1 : longB xs
  · cases f2 : longB ys
    · exact rows_yes A1 A2 c1 c2 xs ys w h1 h2 f1 f2
    · exact rows_long A1 A2 c1 c2 xs ys w h1 h2 hn hm he1 he2 (.inr ⟨f1, f2⟩)
  · exact rows_long A1 A2 c1 c2 xs ys w h1 h2 hn hm he1 he2 (.inl f1)
end Go.Proofs.Ytlbeaofnolaooaa
