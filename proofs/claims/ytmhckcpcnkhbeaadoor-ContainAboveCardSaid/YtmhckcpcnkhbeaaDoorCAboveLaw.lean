/-
  WALK: the law ContainAbove.
-/
import Derived.Test.YtmhckcpcnkhbeaaDoorCAwake
namespace Go.Proofs.YtmhckcpcnkhbeaaDoor
open Go.RowKit
set_option maxRecDepth 100000
set_option linter.unusedVariables false
set_option linter.unusedSimpArgs false

theorem under_to {k p : Nat} (h : underB k p = true) : p ≤ 5 := by
  unfold underB at h
  split at h <;> first | (simp at h; omega) | cases h
theorem mem_p (k o : Nat) : decide (o ∈ parentsL k) = (o != 0 && underB k o) := by
  rw [Bool.eq_iff_iff, decide_eq_true_eq, mem_parents]
  simp only [bne_iff_ne, ne_eq, Bool.and_eq_true]
  constructor
  · rintro ⟨h1, h2⟩; exact ⟨by omega, h2⟩
  · rintro ⟨h1, h2⟩; have := under_to h2; exact ⟨by omega, h2⟩
theorem mem_k (k o : Nat) : decide (o ∈ kidsL k) = (k != 0 && underB o k) := by
  rw [Bool.eq_iff_iff, decide_eq_true_eq, mem_kids, kdB_iff]
  simp only [bne_iff_ne, ne_eq, Bool.and_eq_true]
  constructor
  · rintro ⟨h1, h2⟩; exact ⟨by omega, h2⟩
  · rintro ⟨h1, h2⟩; have := under_to h2; exact ⟨by omega, h2⟩
theorem under_self (k : Nat) : underB k k = false := by
  cases h : underB k k with
  | false => rfl
  | true =>
    have h1 := under_to h
    exact absurd h ((show ∀ k, k < 10 → ¬ underB k k = true by decide +kernel) k (by omega))
theorem kids_none {k : Nat} (h : kdB k = false) : kidsL k = [] := by
  unfold kidsL
  rw [List.filter_eq_nil_iff]
  intro p _
  simp [h]
/-- One step from a kind to one of its parents. -/
theorem step_up {a p : Nat} (h : p ∈ parentsL a) : kdB p = true ∧ lowL a ≤ lowL p + 1 ∧ highL p + 1 ≤ highL a := by
  rw [mem_parents] at h
  have hk := kdB_iff.1 (under_kd h.2)
  have := (show ∀ a, a < 10 → ∀ p, p < 10 → (!underB a p || p == 0 || (decide (lowL a ≤ lowL p + 1) && decide (highL p + 1 ≤ highL a))) = true by decide +kernel) a (by omega) p (by omega)
  rw [h.2] at this
  have h0 : (p == 0) = false := by simp; omega
  rw [h0] at this
  simp at this
  exact ⟨kdB_t h.1.1 h.1.2, this.1, this.2⟩
theorem has_parent {a : Nat} (h : kdB a = true) (h1 : a ≠ 1) : 0 < (parentsL a).length ∧ underB a 0 = false := by
  have hk := kdB_iff.1 h
  have := (show ∀ a, a < 10 → (decide (a = 0) || decide (a = 1) || (decide (0 < (parentsL a).length) && !underB a 0)) = true by decide +kernel) a (by omega)
  simp at this
  rcases this with (q | q) | q
  · omega
  · exact absurd q h1
  · exact q
theorem high_pos {a : Nat} (h : kdB a = true) : 1 ≤ highL a := by
  have hk := kdB_iff.1 h
  have := (show ∀ a, a < 10 → (decide (a = 0) || decide (1 ≤ highL a)) = true by decide +kernel) a (by omega)
  simp at this
  omega
theorem grp_zero (k : Nat) : ((grp k : Int) == 0) = !kdB k := by
  cases h : kdB k with
  | false => rw [(none_of h).2.2.1]; rfl
  | true => have := grp_pos h; simp; omega
theorem four_get (a b c d : Nat) (ha : a ≤ 255) (hb : b ≤ 255) (hc : c ≤ 255) (hd : d ≤ 255) {j : Nat} (hj : j < 4) : ∃ x : Nat, (#[u8 a, u8 b, u8 c, u8 d] : Array Value)[j]? = some (u8 x) ∧ x ≤ 255 := by
  rcases (show j = 0 ∨ j = 1 ∨ j = 2 ∨ j = 3 by omega) with rfl | rfl | rfl | rfl
  · exact ⟨a, rfl, ha⟩
  · exact ⟨b, rfl, hb⟩
  · exact ⟨c, rfl, hc⟩
  · exact ⟨d, rfl, hd⟩
set_option maxHeartbeats 8000000 in
theorem above_walk (k a b c d : Nat) (w : World) (hk : k ≤ 255) (ha : a ≤ 255) (hb0 : b ≤ 255) (hc0 : c ≤ 255) (hd : d ≤ 255) (hw : Tables w) :
    Calls Tryd.prog 6 #[.int .u8 k, .agg #[u8 a, u8 b, u8 c, u8 d]] w fun e w' => e = .returned (.bool true) ∧ Below w.heap.size w w' := by
  have hb := bAl (Below.refl w.heap.size w) (.cells #[u8 a, u8 b, u8 c, u8 d] 43)
  have mW := Lib.hid (AtC.new w #[u8 a, u8 b, u8 c, u8 d] 43)
  have CA := Lib.hid (awake_any _ (hw.then hb))
  have HG := Lib.hid (fun j (hj : j < 4) => four_get a b c d ha hb0 hc0 hd hj)
  have CP := Lib.hid (fun W (q : Below w.heap.size w W) => parents_any k W hk (hw.then q))
  have CK := Lib.hid (fun W (q : Below w.heap.size w W) => kids_any k W hk (hw.then q))
  have HP := Lib.hid (mem_p k)
  have HK := Lib.hid (mem_k k)
  have LP := parents_len k
  have LK := kids_len k
  have HW := Lib.hid hw
  have NP := Lib.hid (@parents_none k)
  have NK := Lib.hid (@kids_none k)
  clear hw
  generalize parentsL k = P at *
  generalize kidsL k = K at *
  go_enter Tryd.func6, Tryd.ntmps6
  go_wp2_with fail
  go_at_call 33
  with_reducible refine CA.out.mono ?_
  rintro e w1 ⟨rfl, k1⟩
  have mW1 := Lib.hid (mW.out.then k1)
  replace hb := bThen hb k1
  clear k1 mW CA
  go_wp2_with fail
  go_at_call 10
  with_reducible refine (CP.out _ hb).mono ?_
  rintro e w2 ⟨v1, rfl, o1, k2⟩
  obtain ⟨A1, c1, rfl, r1, _, _⟩ := o1.form
  have R1 := Lib.hid r1
  have hb2 := bThen hb k2
  clear o1 r1
  go_wp2_with fail
  go_at_call 11
  with_reducible refine (CK.out _ hb2).mono ?_
  rintro e w3 ⟨v2, rfl, o2, k3⟩
  obtain ⟨A2, c2, rfl, r2, _, _⟩ := o2.form
  have S2 := Lib.hid r2
  have S1 := Lib.hid (R1.out.then k3)
  have mW3 := Lib.hid (mW1.out.then (bThen k2 k3))
  have hb3 := bThen hb2 k3
  clear o2 r2 R1 k2 k3 hb hb2 mW1 CP CK
  go_wp2_with fail
  go_loopw [7] (fun i wr => ∃ n : Nat, n ≤ 256 ∧ i = .int .i64 n ∧ Below w3.heap.size w3 wr) (fun i _ => 256 - (intOf i).toNat)
  case atStart => exact ⟨0, by omega, rfl, Below.refl _ _⟩
  case round =>
    obtain ⟨n, hn, rfl, hbr⟩ := hrel
    have hbw := bThen hb3 hbr
    by_cases hlt : n < 256
    · have i1 : (n : Int) < 256 := by omega
      have C1 := Lib.hid (hasRow_any c1 n wr (S1.out.below hbr) (by omega))
      have C2 := Lib.hid (fun W (q : Below wr.heap.size wr W) => hasRow_any c2 n W (S2.out.below (bThen hbr q)) (by omega))
      have C3 := Lib.hid (under_any k n wr hk (by omega) (HW.out.then hbw))
      have C4 := Lib.hid (fun W (q : Below wr.heap.size wr W) => under_any n k W (by omega) hk (HW.out.then (bThen hbw q)))
      rw [HP.out n] at C1
      have E2 : Hid (decide (n ∈ K) = (k != 0 && underB n k)) := Lib.hid (HK.out n)
      rw [E2.out] at C2
      by_cases hn0 : n = 0
      · have e1 : (n != 0 && underB k n) = false := by simp [hn0]
        rw [e1] at C1
        have j1 : ((n : Int) != 0) = false := by simp; omega
        have j2 : ((n : Int) == 0) = true := by simp; omega
        clear e1 hn0
        by_cases hk0 : k = 0
        · have e2 : (k != 0 && underB n k) = false := by simp [hk0]
          rw [e2] at C2
          have j3 : ((k : Int) != 0) = false := by simp; omega
          have j4 : ((k : Int) == 0) = true := by simp; omega
          clear e2 hk0
          go_wp2_with (go_at_call 34; first | ((with_reducible refine C1.out.mono ?_); rintro e w4 ⟨rfl, rfl⟩) | ((with_reducible refine (C2.out _ (Below.refl _ _)).mono ?_); rintro e w4 ⟨rfl, rfl⟩))
          go_roundw
          case rel => exact ⟨n + 1, by omega, by go_num, hbr⟩
          case measure => simp [intOf]; omega
        · have e2 : (k != 0 && underB n k) = underB n k := by simp [hk0]
          rw [e2] at C2
          have j3 : ((k : Int) != 0) = true := by simp; omega
          have j4 : ((k : Int) == 0) = false := by simp; omega
          clear e2 hk0
          generalize underB n k = u2 at *
          go_wp2_with (first | (go_at_call 34; first | ((with_reducible refine C1.out.mono ?_); rintro e w4 ⟨rfl, rfl⟩) | ((with_reducible refine (C2.out _ (Below.refl _ _)).mono ?_); rintro e w4 ⟨rfl, rfl⟩)) | (go_at_call 18; ((with_reducible refine (C4.out _ (Below.refl _ _)).mono ?_); rintro e w5 ⟨rfl, k5⟩)))
          go_roundw
          case rel => exact ⟨n + 1, by omega, by go_num, bThen hbr k5⟩
          case measure => simp [intOf]; omega
      · have e1 : (n != 0 && underB k n) = underB k n := by simp [hn0]
        rw [e1] at C1
        have j1 : ((n : Int) != 0) = true := by simp; omega
        have j2 : ((n : Int) == 0) = false := by simp; omega
        clear e1 hn0
        by_cases hk0 : k = 0
        · have e2 : (k != 0 && underB n k) = false := by simp [hk0]
          rw [e2] at C2
          have j3 : ((k : Int) != 0) = false := by simp; omega
          have j4 : ((k : Int) == 0) = true := by simp; omega
          clear e2 hk0
          generalize underB k n = u1 at *
          go_wp2_with (first | (go_at_call 34; first | ((with_reducible refine C1.out.mono ?_); rintro e w4 ⟨rfl, rfl⟩) | ((with_reducible refine (C2.out _ k5).mono ?_); rintro e w4 ⟨rfl, rfl⟩)) | (go_at_call 18; ((with_reducible refine C3.out.mono ?_); rintro e w5 ⟨rfl, k5⟩)))
          go_roundw
          case rel => exact ⟨n + 1, by omega, by go_num, bThen hbr k5⟩
          case measure => simp [intOf]; omega
        · have e2 : (k != 0 && underB n k) = underB n k := by simp [hk0]
          rw [e2] at C2
          have j3 : ((k : Int) != 0) = true := by simp; omega
          have j4 : ((k : Int) == 0) = false := by simp; omega
          clear e2 hk0
          generalize underB n k = u2 at *
          generalize underB k n = u1 at *
          go_wp2_with (first | (go_at_call 34; first | ((with_reducible refine C1.out.mono ?_); rintro e w4 ⟨rfl, rfl⟩) | ((with_reducible refine (C2.out _ k5).mono ?_); rintro e w4 ⟨rfl, rfl⟩)) | (go_at_call 18; first | ((with_reducible refine C3.out.mono ?_); rintro e w5 ⟨rfl, k5⟩) | ((with_reducible refine (C4.out _ k5).mono ?_); rintro e w6 ⟨rfl, k6⟩)))
          go_roundw
          case rel => exact ⟨n + 1, by omega, by go_num, bThen (bThen hbr k5) k6⟩
          case measure => simp [intOf]; omega
    · have e : n = 256 := by omega
      subst e
      have hle := lowL_le k
      have hhe := highL_le k
      have CU := Lib.hid (fun W (q : Below w.heap.size w W) => under_any k k W hk hk (HW.out.then q))
      rw [under_self] at CU
      have CL := Lib.hid (fun W (q : Below w.heap.size w W) => levels_any k W hk (HW.out.then q))
      have CG := Lib.hid (fun W (q : Below w.heap.size w W) => group_any k W hk (HW.out.then q))
      have CU0 := Lib.hid (fun W (q : Below w.heap.size w W) => under0_any k W hk (HW.out.then q))
      have hgz := grp_zero k
      rcases (show kdB k = false ∨ kdB k = true by cases kdB k <;> simp) with hkd | hkd
      · obtain ⟨_, _, _, _, _, z1, z2⟩ := none_of hkd
        rw [z1, z2] at CL
        rw [under_none hkd] at CU0
        rw [hkd] at hgz
        simp only [Bool.not_false] at hgz
        have p0 : ((P.length : Int) == 0) = true := by rw [NP.out hkd]; rfl
        have q0 : ((K.length : Int) == 0) = true := by rw [NK.out hkd]; rfl
        have HZ : Hid (∀ W, Below w.heap.size w W → Calls Tryd.prog 16 #[.int .u8 k] W fun e w' => e = .returned (.tuple #[.int .i64 0, .int .i64 0]) ∧ Below W.heap.size W w') := CL
        clear CL z1 z2 hkd hle hhe
        generalize grp k = g at *
        go_wp2_with (first
          | (go_at_call 18; first | ((with_reducible refine (CU0.out _ hbw).mono ?_); rintro e w4 ⟨rfl, k4⟩; replace hbw := bThen hbw k4) | ((with_reducible refine (CU.out _ hbw).mono ?_); rintro e w4 ⟨rfl, k4⟩; replace hbw := bThen hbw k4))
          | (go_at_call 16; ((with_reducible refine (HZ.out _ hbw).mono ?_); rintro e w5 ⟨rfl, k5⟩; replace hbw := bThen hbw k5))
          | (go_at_call 22; ((with_reducible refine (CG.out _ hbw).mono ?_); rintro e w6 ⟨rfl, k6⟩; replace hbw := bThen hbw k6)))
        go_ret
        exact ⟨rfl, hbw⟩
      · rw [hkd] at hgz
        simp only [Bool.not_true] at hgz
        have HKD := Lib.hid hkd
        have mWr := Lib.hid (mW3.out.then hbr)
        clear hkd CU0 S1 S2 mW3 NP NK HP HK hbr hb3
        generalize grp k = g at *
        generalize hlo : lowL k = lo at *
        generalize hhi : highL k = hi at *
        have HLO := Lib.hid hlo
        have HHI := Lib.hid hhi
        clear hlo hhi
        go_wp2_with (first
          | (go_at_call 18; ((with_reducible refine (CU.out _ hbw).mono ?_); rintro e w4 ⟨rfl, k4⟩; replace hbw := bThen hbw k4))
          | (go_at_call 16; ((with_reducible refine (CL.out _ hbw).mono ?_); rintro e w5 ⟨rfl, k5⟩; replace hbw := bThen hbw k5))
          | (go_at_call 22; ((with_reducible refine (CG.out _ hbw).mono ?_); rintro e w6 ⟨rfl, k6⟩; replace hbw := bThen hbw k6)))
        have mW6 := Lib.hid (mWr.out.then (bThen (bThen k4 k5) k6))
        clear k4 k5 k6 mWr CU CL CG
        go_loopw [11, 12] (fun at_ i wr => ∃ x j : Nat, j ≤ 4 ∧ at_ = .int .u8 x ∧ i = .int .i64 j ∧ kdB x = true ∧ lo ≤ j + lowL x ∧ j + highL x ≤ hi ∧ Below w6.heap.size w6 wr) (fun _ i _ => 4 - (intOf i).toNat)
        case atStart => exact ⟨k, 0, by omega, rfl, rfl, HKD.out, by rw [HLO.out]; omega, by rw [HHI.out]; omega, Below.refl _ _⟩
        case round =>
          obtain ⟨x, j, hj, rfl, rfl, hx, hl1, hh1, hbr⟩ := hrel
          have hbz := bThen hbw hbr
          have hpos := high_pos hx
          have hj4 : j < 4 := by omega
          have i1 : (j : Int) < 4 := by omega
          have hx9 := kdB_iff.1 hx
          have CP := Lib.hid (parents_any x wr (by omega) (HW.out.then hbz))
          have CU := Lib.hid (fun W (q : Below wr.heap.size wr W) => under0_any x W (by omega) (HW.out.then (bThen hbz q)))
          by_cases h1 : x = 1
          · have j1 : ((x : Int) == 1) = true := by simp; omega
            have e1 : parentsL x = [] := by rw [h1]; rfl
            have e2 : underB x 0 = true := by rw [h1]; rfl
            have e3 : lowL x = 1 := by rw [h1]; rfl
            have e4 : highL x = 1 := by rw [h1]; rfl
            rw [e1] at CP
            rw [e2] at CU
            rw [e3] at hl1
            rw [e4] at hh1
            have j2 : (lo : Int) ≤ (j : Int) + 1 := by omega
            have j3 : (j : Int) + 1 ≤ (hi : Int) := by omega
            clear e1 e2 e3 e4 h1 hx hpos
            go_wp2_with (first
              | (go_at_call 10; ((with_reducible refine CP.out.mono ?_); rintro e w7 ⟨v7, rfl, o7, k7⟩; obtain ⟨A7, c7, rfl, _, _, _⟩ := o7.form; clear o7))
              | (go_at_call 18; ((with_reducible refine (CU.out _ k7).mono ?_); rintro e w8 ⟨rfl, k8⟩)))
            go_ret
            exact ⟨by simp, bThen (bThen hbz k7) k8⟩
          · have j1 : ((x : Int) == 1) = false := by simp; omega
            obtain ⟨e1, e2⟩ := has_parent hx h1
            obtain ⟨y, hy, hy255⟩ := HG.out j hj4
            rw [e2] at CU
            have HST := Lib.hid (fun p => @step_up x p)
            have HMJ := Lib.hid hl1
            have HMH := Lib.hid hh1
            have LQ := parents_len x
            generalize parentsL x = Q at *
            have j2 : ((Q.length : Int) == 0) = false := by rw [beq_eq_false_iff_ne]; omega
            have HE1 := Lib.hid e1
            have mz := (mW6.out.then hbr)
            have HBR := Lib.hid hbr
            clear e2 h1 hx hpos hl1 hh1 hbr
            go_wp2_with fail
            go_at_call 10
            with_reducible refine CP.out.mono ?_
            rintro e w7 ⟨v7, rfl, o7, k7⟩
            obtain ⟨A7, c7, rfl, r7, _, _⟩ := o7.form
            obtain ⟨bb, oo, rfl, hbb, hcc⟩ := r7.at_ HE1.out
            have hrem : y % Q.length < Q.length := Nat.mod_lt _ HE1.out
            have hq := hcc (y % Q.length) _ (List.getElem?_eq_getElem hrem)
            have HQM := Lib.hid (List.getElem_mem hrem)
            generalize Q[y % Q.length] = z at *
            have mz7 := mz.then k7
            clear o7 r7 hcc CP
            go_wp2_with (go_at_call 18; ((with_reducible refine (CU.out _ k7).mono ?_); rintro e w8 ⟨rfl, k8⟩; have hw8 := ((mz7.then k8).c j).trans hy; have hq8 := (k8.cell (p := ⟨bb, oo + y % Q.length, none⟩) hbb).trans hq))
            have hst := HST.out z HQM.out
            have hmj := HMJ.out
            have hmh := HMH.out
            go_roundw
            case rel => exact ⟨z, j + 1, by omega, rfl, by go_num, hst.1, by omega, by omega, bThen (bThen HBR.out k7) k8⟩
            case measure => simp [intOf]; omega
end Go.Proofs.YtmhckcpcnkhbeaaDoor
