/-
  WALK: the law ContainTwo.
-/
import Derived.Test.YtmhckcpcnkhbeaaDoorCLevels
import Derived.Test.YtmhckcpcnkhbeaaDoorCSame
namespace Go.Proofs.YtmhckcpcnkhbeaaDoor
open Go.RowKit
set_option maxRecDepth 100000
set_option linter.unusedVariables false
set_option linter.unusedSimpArgs false

theorem parents_le (k : Nat) : ∀ x ∈ parentsL k, x ≤ 255 := fun x h => by have := (mem_parents.1 h).1; omega
theorem kids_le (k : Nat) : ∀ x ∈ kidsL k, x ≤ 255 := fun x h => by have := kdB_iff.1 (under_kd (mem_kids.1 h).2); omega
theorem same_self {A1 A2 : Option Addr} {a : List Nat} {B1 B2 : Nat} (c1 c2 : Nat) (w : World) (h1 : RdU w B1 A1 a) (h2 : RdU w B2 A2 a) (ha : ∀ x ∈ a, x ≤ 255) :
    Calls Tryd.prog 12 #[.slice A1 a.length c1, .slice A2 a.length c2] w fun e w' => e = .returned (.bool true) ∧ w = w' :=
  (same_any c1 c2 w h1 h2 ha ha).mono fun e w' ⟨q1, q2⟩ => ⟨by rw [q1]; simp, q2⟩
set_option maxHeartbeats 8000000 in
theorem two_walk (k o : Nat) (w : World) (hk : k ≤ 255) (ho : o ≤ 255) (hw : Tables w) : Calls Tryd.prog 3 #[.int .u8 k, .int .u8 o] w fun e w' => e = .returned (.bool true) ∧ Below w.heap.size w w' := by
  have CP := Lib.hid (fun W (q : Below w.heap.size w W) => parents_any k W hk (hw.then q))
  have CK := Lib.hid (fun W (q : Below w.heap.size w W) => kids_any k W hk (hw.then q))
  have CL := Lib.hid (fun W (q : Below w.heap.size w W) => levels_any k W hk (hw.then q))
  have CU := Lib.hid (fun W (q : Below w.heap.size w W) => under_any k o W hk ho (hw.then q))
  have CR := Lib.hid (fun W (q : Below w.heap.size w W) => refers_any k o W hk ho (hw.then q))
  have CG := Lib.hid (fun W (q : Below w.heap.size w W) => group_any k W hk (hw.then q))
  have CM := Lib.hid (fun W (q : Below w.heap.size w W) => most_any k W hk (hw.then q))
  have RP := Lib.hid (fun W => refParents_any k W)
  have RK := Lib.hid (fun W => refKids_any k W)
  have RL := Lib.hid (fun W => refLevels_any k W)
  have RU := Lib.hid (fun W => refUnder_any k o W)
  have RR := Lib.hid (fun W => refRefers5_any k o W)
  have RG := Lib.hid (fun W => refGroup_any k W)
  have RM := Lib.hid (fun W => refMost_any k W)
  have HP := Lib.hid (parents_le k)
  have HK := Lib.hid (kids_le k)
  have LP := Lib.hid (parents_len k)
  have LK := Lib.hid (kids_len k)
  clear hw
  generalize parentsL k = P at *
  generalize kidsL k = K at *
  generalize lowL k = l1 at *
  generalize highL k = l2 at *
  generalize underB k o = b1 at *
  generalize refersTo k o = b2 at *
  generalize grp k = g at *
  generalize most k = m at *
  go_enter Tryd.func3, Tryd.ntmps3
  go_wp2
  go_loopw [5] (fun i wr => ∃ n : Nat, n ≤ 2 ∧ i = .int .i64 n ∧ Below w.heap.size w wr) (fun i _ => 2 - (intOf i).toNat)
  case atStart => exact ⟨0, by omega, rfl, Below.refl _ _⟩
  case round =>
    obtain ⟨n, hn, rfl, hb⟩ := hrel
    by_cases hlt : n < 2
    · have i1 : (n : Int) < 2 := by omega
      go_wp2_with fail
      with_reducible refine (CP.out _ hb).mono ?_
      rintro e w1 ⟨v1, rfl, o1, k1⟩
      obtain ⟨A1, c1, hv1, r1, _, _⟩ := o1.form
      have O1 := Lib.hid o1; have R1 := Lib.hid r1
      have hb1 := bThen hb k1
      clear o1 r1
      subst hv1
      go_wp2_with fail
      with_reducible refine (CK.out _ hb1).mono ?_
      rintro e w2 ⟨v2, rfl, o2, k2⟩
      obtain ⟨A2, c2, hv2, r2, _, _⟩ := o2.form
      have O2 := Lib.hid o2; have R2 := Lib.hid r2
      have hb2 := bThen hb1 k2
      clear o2 r2
      subst hv2
      go_wp2_with fail
      with_reducible refine (RP.out _).mono ?_
      rintro e w3 ⟨v3, rfl, o3, k3⟩
      obtain ⟨A3, c3, hv3, r3, _, _⟩ := o3.form
      have C3 := Lib.hid (same_self c1 c3 w3 (R1.out.below (bThen k2 k3)) r3 HP.out)
      have hb3 := bThen hb2 k3
      have P3 := Lib.hid (R2.out.below k3)
      clear o3 r3
      subst hv3
      go_wp2_with (go_at_call 12; ((with_reducible refine C3.out.mono ?_); rintro e w4 ⟨rfl, rfl⟩))
      go_at_call 14
      with_reducible refine (RK.out _).mono ?_
      rintro e w5 ⟨v5, rfl, o5, k5⟩
      obtain ⟨A5, c5, hv5, r5, _, _⟩ := o5.form
      have C5 := Lib.hid (same_self c2 c5 w5 (P3.out.below (k5.mono k3.size)) r5 HK.out)
      have hb5 := bThen hb3 k5
      have S1 := Lib.hid (O1.out.below (bThen (bThen k2 k3) k5))
      have S2 := Lib.hid (O2.out.below (bThen k3 k5))
      clear o5 r5 C3 P3
      subst hv5
      have CS1 := Lib.hid (spoil_any P w5 S1.out (by have := LP.out; omega))
      go_wp2_with (first | (go_at_call 12; ((with_reducible refine C5.out.mono ?_); rintro e w6 ⟨rfl, rfl⟩)))
      go_at_call 15
      with_reducible refine CS1.out.mono ?_
      rintro e w7 ⟨rfl, g7⟩
      have hne : (Value.slice A2 K.length c2).ownBlock = none ∨ (Value.slice A2 K.length c2).ownBlock ≠ (Value.slice A1 P.length c1).ownBlock := by
        cases h2 : (Value.slice A2 K.length c2).ownBlock with
        | none => exact .inl rfl
        | some q2 =>
          refine .inr fun h1 => ?_
          have := (O2.out.lt q2 h2).1
          have := (O1.out.lt q2 h1.symm).2
          omega
      have S2b := Lib.hid (S2.out.grown g7 hne)
      have hb7 : Below w.heap.size w w7 := hb5.grown g7 hb5.size (fun q hq => by have := (O1.out.lt q hq).1; have := hb.size; omega)
      have CS2 := Lib.hid (spoil_any K w7 S2b.out (by have := LK.out; omega))
      clear g7 hne
      go_wp2_with fail
      go_at_call 15
      with_reducible refine CS2.out.mono ?_
      rintro e w8 ⟨rfl, g8⟩
      have hb8 : Below w.heap.size w w8 := hb7.grown g8 hb7.size (fun q hq => by have := (O2.out.lt q hq).1; have := hb1.size; omega)
      clear g8
      go_wp2
      go_roundw
      case rel => exact ⟨n + 1, by omega, by go_num, hb8⟩
      case measure => simp [intOf]; omega
    · have i1 : ¬ (n : Int) < 2 := by omega
      go_wp2_with (first
        | (go_at_call 16; ((with_reducible refine (CL.out _ hb).mono ?_); rintro e w1 ⟨rfl, k1⟩; replace hb := bThen hb k1))
        | (go_at_call 17; ((with_reducible refine (RL.out _).mono ?_); rintro e w1 ⟨rfl, rfl⟩))
        | (go_at_call 18; ((with_reducible refine (CU.out _ hb).mono ?_); rintro e w1 ⟨rfl, k1⟩; replace hb := bThen hb k1))
        | (go_at_call 19; ((with_reducible refine (RU.out _).mono ?_); rintro e w1 ⟨rfl, rfl⟩))
        | (go_at_call 20; ((with_reducible refine (CR.out _ hb).mono ?_); rintro e w1 ⟨rfl, k1⟩; replace hb := bThen hb k1))
        | (go_at_call 21; ((with_reducible refine (RR.out _).mono ?_); rintro e w1 ⟨rfl, rfl⟩))
        | (go_at_call 22; ((with_reducible refine (CG.out _ hb).mono ?_); rintro e w1 ⟨rfl, k1⟩; replace hb := bThen hb k1))
        | (go_at_call 23; ((with_reducible refine (RG.out _).mono ?_); rintro e w1 ⟨rfl, rfl⟩))
        | (go_at_call 24; ((with_reducible refine (CM.out _ hb).mono ?_); rintro e w1 ⟨rfl, k1⟩; replace hb := bThen hb k1))
        | (go_at_call 25; ((with_reducible refine (RM.out _).mono ?_); rintro e w1 ⟨rfl, rfl⟩)))
      go_ret
      exact ⟨rfl, hb⟩
end Go.Proofs.YtmhckcpcnkhbeaaDoor
