/-
  WALKS: a stamp behind a change of a kind: the program's Next, and the document's.
-/
import Derived.Test.YthdphdmiafkkgaaDoorUMay
namespace Go.Proofs.YthdphdmiafkkgaaDoor.UX
open Go.RowKit FixMath
set_option maxRecDepth 100000
set_option linter.unusedVariables false
set_option linter.unusedSimpArgs false

theorem can_z {d s : Int} {k : Nat} (h : eqS d s 0 0 = true) : canS d s k = decide (k = 1) := by
  simp [eqS] at h
  obtain ⟨rfl, rfl⟩ := h
  by_cases e : k = 1
  · subst e; decide
  · rw [Bool.eq_iff_iff, canS_iff]; simp [e]
theorem can_f {d s : Int} {k : Nat} (h : mayS d s = false) : canS d s k = false := by unfold canS; rw [h]; rfl
theorem can_m {d s : Int} {k : Nat} (h : eqS d s 0 0 = false) (m : mayS d s = true) : canS d s k = decide (1 ≤ k ∧ k ≤ 4) := by
  simp [eqS] at h
  rw [Bool.eq_iff_iff, canS_iff]
  have := mayS_iff.1 m
  simp [m]
  omega
theorem possible_any (d s : Int) (k : Nat) (w : World) : Calls Tryd.prog 20 #[sp d s, .int .u8 k] w fun e w' => e = .returned (.bool (canS d s k)) ∧ Below w.heap.size w w' := by
  have hb : Below w.heap.size w w := Below.refl _ _
  have hE := fun W => run_eqSt W d s 0 0
  cases h0 : eqS d s 0 0
  · have C := fun W => Lib.hid (stMay_any d s W)
    cases h1 : mayS d s
    · have HV := Lib.hid (can_f (k := k) h1)
      rw [h0] at hE; rw [h1] at C; clear h0 h1
      go_enter Tryd.func20, Tryd.ntmps20
      go_wp2_with (go_at_call 19; ((with_reducible refine (C _).out.mono ?_); rintro e w' ⟨rfl, k1⟩; replace hb := bThen (bAl hb _) k1))
      go_ret
      exact ⟨by rw [HV.out]; rfl, hb⟩
    · have HV := Lib.hid (can_m (k := k) h0 h1)
      rw [h0] at hE; rw [h1] at C; clear h0 h1
      by_cases a : 1 ≤ k
      · by_cases b : k ≤ 4
        · have HW := Lib.hid (HV.out.trans (decide_eq_true ⟨a, b⟩)); clear HV
          have a' : (1 : Int) ≤ k := by omega
          have b' : (k : Int) ≤ 4 := by omega
          go_enter Tryd.func20, Tryd.ntmps20
          go_wp2_with (go_at_call 19; ((with_reducible refine (C _).out.mono ?_); rintro e w' ⟨rfl, k1⟩; replace hb := bThen (bAl hb _) k1))
          go_ret
          exact ⟨by rw [HW.out]; rfl, hb⟩
        · have HW := Lib.hid (HV.out.trans (decide_eq_false (fun q => b q.2))); clear HV
          have a' : (1 : Int) ≤ k := by omega
          have b' : decide ((k : Int) ≤ 4) = false := by simp; omega
          go_enter Tryd.func20, Tryd.ntmps20
          go_wp2_with (go_at_call 19; ((with_reducible refine (C _).out.mono ?_); rintro e w' ⟨rfl, k1⟩; replace hb := bThen (bAl hb _) k1))
          go_ret
          exact ⟨by rw [HW.out]; rfl, hb⟩
      · have HW := Lib.hid (HV.out.trans (decide_eq_false (fun q => a q.1))); clear HV
        obtain rfl : k = 0 := by omega
        go_enter Tryd.func20, Tryd.ntmps20
        go_wp2_with (go_at_call 19; ((with_reducible refine (C _).out.mono ?_); rintro e w' ⟨rfl, k1⟩; replace hb := bThen (bAl hb _) k1))
        go_ret
        exact ⟨by rw [HW.out]; rfl, hb⟩
  · have HV := Lib.hid (can_z (k := k) h0)
    rw [h0] at hE; clear h0
    by_cases e1 : k = 1
    · have HW := Lib.hid (HV.out.trans (decide_eq_true e1)); clear HV
      subst e1
      go_enter Tryd.func20, Tryd.ntmps20
      go_wp2
      go_ret
      exact ⟨by rw [HW.out]; rfl, bAl hb _⟩
    · have HW := Lib.hid (HV.out.trans (decide_eq_false e1)); clear HV
      have e1' : ((k : Int) == 1) = false := by simp; omega
      go_enter Tryd.func20, Tryd.ntmps20
      go_wp2
      go_ret
      exact ⟨by rw [HW.out]; rfl, bAl hb _⟩
/-- The table of what is added lies in memory. -/
def Adds (w : World) : Prop := 0 < w.heap.size ∧ ∀ k : Nat, k < 5 → w.cell? ⟨0, 2 * k, none⟩ = some (.int .i64 (addD k)) ∧ w.cell? ⟨0, 2 * k + 1, none⟩ = some (.int .i64 (addS k))
theorem Adds.then {w w' : World} (h : Adds w) (k : Below w.heap.size w w') : Adds w' :=
  ⟨Nat.lt_of_lt_of_le h.1 k.size, fun j hj => ⟨(k.cell (p := ⟨0, _, none⟩) h.1).trans (h.2 j hj).1, (k.cell (p := ⟨0, _, none⟩) h.1).trans (h.2 j hj).2⟩⟩
abbrev nxV (d s : Int) (k : Nat) : Value := .tuple #[sp (nxD d s k) (nxS d s k), .int .i64 (nxE d s k)]
theorem nx_no {d s : Int} {k : Nat} (h : canS d s k = false) : nxV d s k = .tuple #[sp 0 0, .int .i64 2] := by
  have e : nxE d s k = 2 := by unfold nxE; rw [if_neg (by simp [h])]
  obtain ⟨h1, h2⟩ := nx_none (d := d) (s := s) (k := k) (by omega)
  unfold nxV; rw [e, h1, h2]
theorem nx_full {d s : Int} {k : Nat} (h : canS d s k = true) (m : mayS (d + addD k) (s + addS k) = false) : nxV d s k = .tuple #[sp 0 0, .int .i64 4] := by
  have e : nxE d s k = 4 := by unfold nxE; rw [if_pos h, if_neg (by simp [m])]
  obtain ⟨h1, h2⟩ := nx_none (d := d) (s := s) (k := k) (by omega)
  unfold nxV; rw [e, h1, h2]
theorem nx_yes {d s : Int} {k : Nat} (h : canS d s k = true) (m : mayS (d + addD k) (s + addS k) = true) : nxV d s k = .tuple #[sp (d + addD k) (s + addS k), .int .i64 0] := by
  have e : nxE d s k = 0 := by unfold nxE; rw [if_pos h, if_pos m]
  obtain ⟨_, _, h1, h2⟩ := nxE_0 e
  unfold nxV; rw [e, h1, h2]

theorem stNext_any (d s : Int) (k : Nat) (w : World) (hA : Adds w) : Calls Tryd.prog 11 #[sp d s, .int .u8 k] w fun e w' => e = .returned (nxV d s k) ∧ Below w.heap.size w w' := by
  have hb : Below w.heap.size w w := Below.refl _ _
  have CP := fun W => Lib.hid (possible_any d s k W)
  cases h0 : canS d s k
  · have HV := Lib.hid (nx_no h0)
    rw [h0] at CP; clear h0
    generalize nxV d s k = V at *
    go_enter Tryd.func11, Tryd.ntmps11
    go_wp2_with (go_at_call 20; ((with_reducible refine (CP _).out.mono ?_); rintro e w1 ⟨rfl, k1⟩; have r := ((At2.new _ 0 0 23).then k1); simp at r; replace hb := bThen (bAl (bAl hb _) _) k1; have r0 := r.c0; have r1 := r.c1; have g0 := r.f0; have g1 := r.f1))
    exact ret_st_tmp rfl rfl rfl rfl (r.set _ _) ⟨by rw [HV.out]; rfl, bSet hb (by simp) _ _⟩
  · obtain ⟨hm, hk, _⟩ := canS_iff.1 h0
    have bd := may_bd hm
    rw [h0] at CP
    have CM := fun W => Lib.hid (stMay_any (d + addD k) (s + addS k) W)

    have h4 : k = 1 ∨ k = 2 ∨ k = 3 ∨ k = 4 := by omega
    rcases h4 with rfl | rfl | rfl | rfl
    · cases hN : mayS (d + addD 1) (s + addS 1)
      · skip
        have HV := Lib.hid (nx_full h0 hN)
        rw [hN] at CM
        rw [show addD 1 = 1 from rfl, show addS 1 = 1 from rfl] at CM
        replace CP : ∀ W, Hid (Calls Tryd.prog 20 #[sp d s, .int .u8 1] W fun e w' => e = .returned (.bool true) ∧ Below W.heap.size W w') := CP
        show Calls Tryd.prog 11 #[sp d s, .int .u8 1] w _
        obtain ⟨a0, a1⟩ := hA.2 1 (by omega)
        rw [show addD 1 = 1 from rfl] at a0
        rw [show addS 1 = 1 from rfl] at a1
        have hlt := hA.1
        clear h0 hN hm hk
        generalize nxV d s 1 = V at *
        go_enter Tryd.func11, Tryd.ntmps11
        go_wp2_with (first
          | (go_at_call 20; ((with_reducible refine (CP _).out.mono ?_); rintro e w1 ⟨rfl, k1⟩; have t := (((At2.new _ d s 23).al _).then k1); have r := ((At2.new _ 0 0 23).then k1); simp at r; replace hb := bThen (bAl (bAl hb _) _) k1; have tl := t.lt; have rl := r.lt; have t0 := t.c0; have t1 := t.c1; have c0 := (hb.cell (p := ⟨0, _, none⟩) hlt).trans a0; have c1 := (hb.cell (p := ⟨0, _, none⟩) hlt).trans a1))
          | (go_at_call 19; ((with_reducible refine (CM _).out.mono ?_); rintro e w2 ⟨rfl, k2⟩; replace r := ((r.al _).al _).then k2; have u := (At2.new _ _ _ _).then k2; simp at u; replace hb := bThen (bAl (bAl hb _) _) k2; have r0 := r.c0; have r1 := r.c1; have g0 := r.f0; have g1 := r.f1; have u0 := u.c0; have u1 := u.c1)))
        exact ret_st_tmp rfl rfl rfl rfl (r.set _ _) ⟨by rw [HV.out]; rfl, bSet hb (by simp) _ _⟩
      · skip
        have HV := Lib.hid (nx_yes h0 hN)
        rw [hN] at CM
        rw [show addD 1 = 1 from rfl, show addS 1 = 1 from rfl] at CM
        rw [show addD 1 = 1 from rfl, show addS 1 = 1 from rfl] at HV
        replace CP : ∀ W, Hid (Calls Tryd.prog 20 #[sp d s, .int .u8 1] W fun e w' => e = .returned (.bool true) ∧ Below W.heap.size W w') := CP
        show Calls Tryd.prog 11 #[sp d s, .int .u8 1] w _
        obtain ⟨a0, a1⟩ := hA.2 1 (by omega)
        rw [show addD 1 = 1 from rfl] at a0
        rw [show addS 1 = 1 from rfl] at a1
        have hlt := hA.1
        clear h0 hN hm hk
        generalize nxV d s 1 = V at *
        go_enter Tryd.func11, Tryd.ntmps11
        go_wp2_with (first
          | (go_at_call 20; ((with_reducible refine (CP _).out.mono ?_); rintro e w1 ⟨rfl, k1⟩; have t := (((At2.new _ d s 23).al _).then k1); have r := ((At2.new _ 0 0 23).then k1); simp at r; replace hb := bThen (bAl (bAl hb _) _) k1; have tl := t.lt; have rl := r.lt; have t0 := t.c0; have t1 := t.c1; have c0 := (hb.cell (p := ⟨0, _, none⟩) hlt).trans a0; have c1 := (hb.cell (p := ⟨0, _, none⟩) hlt).trans a1))
          | (go_at_call 19; ((with_reducible refine (CM _).out.mono ?_); rintro e w2 ⟨rfl, k2⟩; replace r := ((r.al _).al _).then k2; have u := (At2.new _ _ _ _).then k2; simp at u; replace hb := bThen (bAl (bAl hb _) _) k2; have r0 := r.c0; have r1 := r.c1; have g0 := r.f0; have g1 := r.f1; have u0 := u.c0; have u1 := u.c1)))
        exact ret_st_tmp rfl rfl rfl rfl (r.set _ _) ⟨by rw [HV.out]; rfl, bSet hb (by simp) _ _⟩
    · cases hN : mayS (d + addD 2) (s + addS 2)
      · skip
        have HV := Lib.hid (nx_full h0 hN)
        rw [hN] at CM
        rw [show addD 2 = 1 from rfl, show addS 2 = 0 from rfl] at CM
        simp only [Int.add_zero] at CM
        replace CP : ∀ W, Hid (Calls Tryd.prog 20 #[sp d s, .int .u8 2] W fun e w' => e = .returned (.bool true) ∧ Below W.heap.size W w') := CP
        show Calls Tryd.prog 11 #[sp d s, .int .u8 2] w _
        obtain ⟨a0, a1⟩ := hA.2 2 (by omega)
        rw [show addD 2 = 1 from rfl] at a0
        rw [show addS 2 = 0 from rfl] at a1
        have hlt := hA.1
        clear h0 hN hm hk
        generalize nxV d s 2 = V at *
        go_enter Tryd.func11, Tryd.ntmps11
        go_wp2_with (first
          | (go_at_call 20; ((with_reducible refine (CP _).out.mono ?_); rintro e w1 ⟨rfl, k1⟩; have t := (((At2.new _ d s 23).al _).then k1); have r := ((At2.new _ 0 0 23).then k1); simp at r; replace hb := bThen (bAl (bAl hb _) _) k1; have tl := t.lt; have rl := r.lt; have t0 := t.c0; have t1 := t.c1; have c0 := (hb.cell (p := ⟨0, _, none⟩) hlt).trans a0; have c1 := (hb.cell (p := ⟨0, _, none⟩) hlt).trans a1))
          | (go_at_call 19; ((with_reducible refine (CM _).out.mono ?_); rintro e w2 ⟨rfl, k2⟩; replace r := ((r.al _).al _).then k2; have u := (At2.new _ _ _ _).then k2; simp at u; replace hb := bThen (bAl (bAl hb _) _) k2; have r0 := r.c0; have r1 := r.c1; have g0 := r.f0; have g1 := r.f1; have u0 := u.c0; have u1 := u.c1)))
        exact ret_st_tmp rfl rfl rfl rfl (r.set _ _) ⟨by rw [HV.out]; rfl, bSet hb (by simp) _ _⟩
      · skip
        have HV := Lib.hid (nx_yes h0 hN)
        rw [hN] at CM
        rw [show addD 2 = 1 from rfl, show addS 2 = 0 from rfl] at CM
        rw [show addD 2 = 1 from rfl, show addS 2 = 0 from rfl] at HV
        simp only [Int.add_zero] at CM
        simp only [Int.add_zero] at HV
        replace CP : ∀ W, Hid (Calls Tryd.prog 20 #[sp d s, .int .u8 2] W fun e w' => e = .returned (.bool true) ∧ Below W.heap.size W w') := CP
        show Calls Tryd.prog 11 #[sp d s, .int .u8 2] w _
        obtain ⟨a0, a1⟩ := hA.2 2 (by omega)
        rw [show addD 2 = 1 from rfl] at a0
        rw [show addS 2 = 0 from rfl] at a1
        have hlt := hA.1
        clear h0 hN hm hk
        generalize nxV d s 2 = V at *
        go_enter Tryd.func11, Tryd.ntmps11
        go_wp2_with (first
          | (go_at_call 20; ((with_reducible refine (CP _).out.mono ?_); rintro e w1 ⟨rfl, k1⟩; have t := (((At2.new _ d s 23).al _).then k1); have r := ((At2.new _ 0 0 23).then k1); simp at r; replace hb := bThen (bAl (bAl hb _) _) k1; have tl := t.lt; have rl := r.lt; have t0 := t.c0; have t1 := t.c1; have c0 := (hb.cell (p := ⟨0, _, none⟩) hlt).trans a0; have c1 := (hb.cell (p := ⟨0, _, none⟩) hlt).trans a1))
          | (go_at_call 19; ((with_reducible refine (CM _).out.mono ?_); rintro e w2 ⟨rfl, k2⟩; replace r := ((r.al _).al _).then k2; have u := (At2.new _ _ _ _).then k2; simp at u; replace hb := bThen (bAl (bAl hb _) _) k2; have r0 := r.c0; have r1 := r.c1; have g0 := r.f0; have g1 := r.f1; have u0 := u.c0; have u1 := u.c1)))
        exact ret_st_tmp rfl rfl rfl rfl (r.set _ _) ⟨by rw [HV.out]; rfl, bSet hb (by simp) _ _⟩
    · cases hN : mayS (d + addD 3) (s + addS 3)
      · skip
        have HV := Lib.hid (nx_full h0 hN)
        rw [hN] at CM
        rw [show addD 3 = 0 from rfl, show addS 3 = 1 from rfl] at CM
        simp only [Int.add_zero] at CM
        replace CP : ∀ W, Hid (Calls Tryd.prog 20 #[sp d s, .int .u8 3] W fun e w' => e = .returned (.bool true) ∧ Below W.heap.size W w') := CP
        show Calls Tryd.prog 11 #[sp d s, .int .u8 3] w _
        obtain ⟨a0, a1⟩ := hA.2 3 (by omega)
        rw [show addD 3 = 0 from rfl] at a0
        rw [show addS 3 = 1 from rfl] at a1
        have hlt := hA.1
        clear h0 hN hm hk
        generalize nxV d s 3 = V at *
        go_enter Tryd.func11, Tryd.ntmps11
        go_wp2_with (first
          | (go_at_call 20; ((with_reducible refine (CP _).out.mono ?_); rintro e w1 ⟨rfl, k1⟩; have t := (((At2.new _ d s 23).al _).then k1); have r := ((At2.new _ 0 0 23).then k1); simp at r; replace hb := bThen (bAl (bAl hb _) _) k1; have tl := t.lt; have rl := r.lt; have t0 := t.c0; have t1 := t.c1; have c0 := (hb.cell (p := ⟨0, _, none⟩) hlt).trans a0; have c1 := (hb.cell (p := ⟨0, _, none⟩) hlt).trans a1))
          | (go_at_call 19; ((with_reducible refine (CM _).out.mono ?_); rintro e w2 ⟨rfl, k2⟩; replace r := ((r.al _).al _).then k2; have u := (At2.new _ _ _ _).then k2; simp at u; replace hb := bThen (bAl (bAl hb _) _) k2; have r0 := r.c0; have r1 := r.c1; have g0 := r.f0; have g1 := r.f1; have u0 := u.c0; have u1 := u.c1)))
        exact ret_st_tmp rfl rfl rfl rfl (r.set _ _) ⟨by rw [HV.out]; rfl, bSet hb (by simp) _ _⟩
      · skip
        have HV := Lib.hid (nx_yes h0 hN)
        rw [hN] at CM
        rw [show addD 3 = 0 from rfl, show addS 3 = 1 from rfl] at CM
        rw [show addD 3 = 0 from rfl, show addS 3 = 1 from rfl] at HV
        simp only [Int.add_zero] at CM
        simp only [Int.add_zero] at HV
        replace CP : ∀ W, Hid (Calls Tryd.prog 20 #[sp d s, .int .u8 3] W fun e w' => e = .returned (.bool true) ∧ Below W.heap.size W w') := CP
        show Calls Tryd.prog 11 #[sp d s, .int .u8 3] w _
        obtain ⟨a0, a1⟩ := hA.2 3 (by omega)
        rw [show addD 3 = 0 from rfl] at a0
        rw [show addS 3 = 1 from rfl] at a1
        have hlt := hA.1
        clear h0 hN hm hk
        generalize nxV d s 3 = V at *
        go_enter Tryd.func11, Tryd.ntmps11
        go_wp2_with (first
          | (go_at_call 20; ((with_reducible refine (CP _).out.mono ?_); rintro e w1 ⟨rfl, k1⟩; have t := (((At2.new _ d s 23).al _).then k1); have r := ((At2.new _ 0 0 23).then k1); simp at r; replace hb := bThen (bAl (bAl hb _) _) k1; have tl := t.lt; have rl := r.lt; have t0 := t.c0; have t1 := t.c1; have c0 := (hb.cell (p := ⟨0, _, none⟩) hlt).trans a0; have c1 := (hb.cell (p := ⟨0, _, none⟩) hlt).trans a1))
          | (go_at_call 19; ((with_reducible refine (CM _).out.mono ?_); rintro e w2 ⟨rfl, k2⟩; replace r := ((r.al _).al _).then k2; have u := (At2.new _ _ _ _).then k2; simp at u; replace hb := bThen (bAl (bAl hb _) _) k2; have r0 := r.c0; have r1 := r.c1; have g0 := r.f0; have g1 := r.f1; have u0 := u.c0; have u1 := u.c1)))
        exact ret_st_tmp rfl rfl rfl rfl (r.set _ _) ⟨by rw [HV.out]; rfl, bSet hb (by simp) _ _⟩
    · cases hN : mayS (d + addD 4) (s + addS 4)
      · skip
        have HV := Lib.hid (nx_full h0 hN)
        rw [hN] at CM
        rw [show addD 4 = 1 from rfl, show addS 4 = 0 from rfl] at CM
        simp only [Int.add_zero] at CM
        replace CP : ∀ W, Hid (Calls Tryd.prog 20 #[sp d s, .int .u8 4] W fun e w' => e = .returned (.bool true) ∧ Below W.heap.size W w') := CP
        show Calls Tryd.prog 11 #[sp d s, .int .u8 4] w _
        obtain ⟨a0, a1⟩ := hA.2 4 (by omega)
        rw [show addD 4 = 1 from rfl] at a0
        rw [show addS 4 = 0 from rfl] at a1
        have hlt := hA.1
        clear h0 hN hm hk
        generalize nxV d s 4 = V at *
        go_enter Tryd.func11, Tryd.ntmps11
        go_wp2_with (first
          | (go_at_call 20; ((with_reducible refine (CP _).out.mono ?_); rintro e w1 ⟨rfl, k1⟩; have t := (((At2.new _ d s 23).al _).then k1); have r := ((At2.new _ 0 0 23).then k1); simp at r; replace hb := bThen (bAl (bAl hb _) _) k1; have tl := t.lt; have rl := r.lt; have t0 := t.c0; have t1 := t.c1; have c0 := (hb.cell (p := ⟨0, _, none⟩) hlt).trans a0; have c1 := (hb.cell (p := ⟨0, _, none⟩) hlt).trans a1))
          | (go_at_call 19; ((with_reducible refine (CM _).out.mono ?_); rintro e w2 ⟨rfl, k2⟩; replace r := ((r.al _).al _).then k2; have u := (At2.new _ _ _ _).then k2; simp at u; replace hb := bThen (bAl (bAl hb _) _) k2; have r0 := r.c0; have r1 := r.c1; have g0 := r.f0; have g1 := r.f1; have u0 := u.c0; have u1 := u.c1)))
        exact ret_st_tmp rfl rfl rfl rfl (r.set _ _) ⟨by rw [HV.out]; rfl, bSet hb (by simp) _ _⟩
      · skip
        have HV := Lib.hid (nx_yes h0 hN)
        rw [hN] at CM
        rw [show addD 4 = 1 from rfl, show addS 4 = 0 from rfl] at CM
        rw [show addD 4 = 1 from rfl, show addS 4 = 0 from rfl] at HV
        simp only [Int.add_zero] at CM
        simp only [Int.add_zero] at HV
        replace CP : ∀ W, Hid (Calls Tryd.prog 20 #[sp d s, .int .u8 4] W fun e w' => e = .returned (.bool true) ∧ Below W.heap.size W w') := CP
        show Calls Tryd.prog 11 #[sp d s, .int .u8 4] w _
        obtain ⟨a0, a1⟩ := hA.2 4 (by omega)
        rw [show addD 4 = 1 from rfl] at a0
        rw [show addS 4 = 0 from rfl] at a1
        have hlt := hA.1
        clear h0 hN hm hk
        generalize nxV d s 4 = V at *
        go_enter Tryd.func11, Tryd.ntmps11
        go_wp2_with (first
          | (go_at_call 20; ((with_reducible refine (CP _).out.mono ?_); rintro e w1 ⟨rfl, k1⟩; have t := (((At2.new _ d s 23).al _).then k1); have r := ((At2.new _ 0 0 23).then k1); simp at r; replace hb := bThen (bAl (bAl hb _) _) k1; have tl := t.lt; have rl := r.lt; have t0 := t.c0; have t1 := t.c1; have c0 := (hb.cell (p := ⟨0, _, none⟩) hlt).trans a0; have c1 := (hb.cell (p := ⟨0, _, none⟩) hlt).trans a1))
          | (go_at_call 19; ((with_reducible refine (CM _).out.mono ?_); rintro e w2 ⟨rfl, k2⟩; replace r := ((r.al _).al _).then k2; have u := (At2.new _ _ _ _).then k2; simp at u; replace hb := bThen (bAl (bAl hb _) _) k2; have r0 := r.c0; have r1 := r.c1; have g0 := r.f0; have g1 := r.f1; have u0 := u.c0; have u1 := u.c1)))
        exact ret_st_tmp rfl rfl rfl rfl (r.set _ _) ⟨by rw [HV.out]; rfl, bSet hb (by simp) _ _⟩
end Go.Proofs.YthdphdmiafkkgaaDoor.UX
