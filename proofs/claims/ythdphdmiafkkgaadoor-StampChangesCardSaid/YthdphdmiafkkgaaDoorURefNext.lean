/-
  WALKS: the document's Next.
-/
import Derived.Test.YthdphdmiafkkgaaDoorUNext
namespace Go.Proofs.YthdphdmiafkkgaaDoor.UX
open Go.RowKit FixMath
set_option maxRecDepth 100000
set_option linter.unusedVariables false
set_option linter.unusedSimpArgs false

theorem may_more {d s : Int} {k : Nat} (h : canS d s k = true) : mayS (d + addD k) (s + addS k) = decide (d + addD k ≤ 1048576 ∧ s + addS k ≤ 1048576) := by
  obtain ⟨hm, hk, hz⟩ := canS_iff.1 h
  have h1 := mayS_iff.1 hm
  have h4 : k = 1 ∨ k = 2 ∨ k = 3 ∨ k = 4 := by omega
  rw [Bool.eq_iff_iff, mayS_iff, decide_eq_true_eq]
  rcases h4 with rfl | rfl | rfl | rfl
  · simp only [show addD 1 = 1 from rfl, show addS 1 = 1 from rfl]; omega
  · simp only [show addD 2 = 1 from rfl, show addS 2 = 0 from rfl]; omega
  · simp only [show addD 3 = 0 from rfl, show addS 3 = 1 from rfl]; omega
  · simp only [show addD 4 = 1 from rfl, show addS 4 = 0 from rfl]; omega
set_option maxHeartbeats 4000000 in
theorem refNext15_any (d s : Int) (k : Nat) (w : World) : Calls Tryd.prog 12 #[sp d s, .int .u8 k] w fun e w' => e = .returned (nxV d s k) ∧ Below w.heap.size w w' := by
  have hb : Below w.heap.size w w := Below.refl _ _
  have C := fun W => Lib.hid (refMay15_any d s W)
  cases h1 : mayS d s
  · skip
    have HV := Lib.hid (nx_no (can_f (k := k) h1))
    rw [h1] at C; clear h1
    generalize nxV d s k = V at *
    go_enter Tryd.func12, Tryd.ntmps12
    go_wp2_with (go_at_call 21; ((with_reducible refine (C _).out.mono ?_); rintro e w1 ⟨rfl, k1⟩; have t := (((At2.new _ d s 23).al _).al _).then k1; have r := (((At2.new _ 0 0 23).al _)).then k1; have n := ((At2.new _ 0 0 23)).then k1; simp at r n; replace hb := bThen (bAl (bAl (bAl hb _) _) _) k1; have t0 := t.c0; have t1 := t.c1; have t2 := t.f0; have t3 := t.f1; have tl := t.lt; have r0 := r.c0; have r1 := r.c1; have g0 := r.f0; have g1 := r.f1; have rl := r.lt; have n0 := n.c0; have n1 := n.c1; have nl := n.lt))
    exact ret_st_tmp rfl rfl rfl rfl (r.set _ _) ⟨by rw [HV.out]; rfl, bSet hb (by simp) _ _⟩
  · have bd := may_bd h1
    have b1 := mayS_iff.1 h1
    by_cases a : k = 0
    · subst a
      have HV := Lib.hid (nx_no (d := d) (s := s) (k := 0) (by unfold canS; simp))
      rw [h1] at C; clear h1
      generalize nxV d s 0 = V at *
      show Calls Tryd.prog 12 #[sp d s, .int .u8 0] w _
      go_enter Tryd.func12, Tryd.ntmps12
      go_wp2_with (go_at_call 21; ((with_reducible refine (C _).out.mono ?_); rintro e w1 ⟨rfl, k1⟩; have t := (((At2.new _ d s 23).al _).al _).then k1; have r := (((At2.new _ 0 0 23).al _)).then k1; have n := ((At2.new _ 0 0 23)).then k1; simp at r n; replace hb := bThen (bAl (bAl (bAl hb _) _) _) k1; have t0 := t.c0; have t1 := t.c1; have t2 := t.f0; have t3 := t.f1; have tl := t.lt; have r0 := r.c0; have r1 := r.c1; have g0 := r.f0; have g1 := r.f1; have rl := r.lt; have n0 := n.c0; have n1 := n.c1; have nl := n.lt))
      exact ret_st_tmp rfl rfl rfl rfl (r.set _ _) ⟨by rw [HV.out]; rfl, bSet hb (by simp) _ _⟩
    · by_cases a4 : 4 < k
      · have a1' : decide ((k : Int) < 1) = false := by simp; omega
        have a2' : (4 : Int) < k := by omega
        have HV := Lib.hid (nx_no (d := d) (s := s) (k := k) (by cases q : canS d s k; rfl; have := (canS_iff.1 q).2.1; omega))
        rw [h1] at C; clear h1
        clear a a4
        generalize nxV d s k = V at *
        go_enter Tryd.func12, Tryd.ntmps12
        go_wp2_with (go_at_call 21; ((with_reducible refine (C _).out.mono ?_); rintro e w1 ⟨rfl, k1⟩; have t := (((At2.new _ d s 23).al _).al _).then k1; have r := (((At2.new _ 0 0 23).al _)).then k1; have n := ((At2.new _ 0 0 23)).then k1; simp at r n; replace hb := bThen (bAl (bAl (bAl hb _) _) _) k1; have t0 := t.c0; have t1 := t.c1; have t2 := t.f0; have t3 := t.f1; have tl := t.lt; have r0 := r.c0; have r1 := r.c1; have g0 := r.f0; have g1 := r.f1; have rl := r.lt; have n0 := n.c0; have n1 := n.c1; have nl := n.lt))
        exact ret_st_tmp rfl rfl rfl rfl (r.set _ _) ⟨by rw [HV.out]; rfl, bSet hb (by simp) _ _⟩
      · have h4 : k = 1 ∨ k = 2 ∨ k = 3 ∨ k = 4 := by omega
        clear a a4
        rcases h4 with rfl | rfl | rfl | rfl
        · by_cases hd : d = 0
          · have d0 := hd; subst hd
            obtain rfl : s = 0 := by omega
            clear b1 bd d0
            have HV := Lib.hid (show nxV 0 0 1 = .tuple #[sp 1 1, .int .i64 0] by unfold nxV; rw [show nxD 0 0 1 = 1 by decide, show nxS 0 0 1 = 1 by decide, show nxE 0 0 1 = 0 by decide])
            rw [h1] at C; clear h1
            generalize nxV 0 0 1 = V at *
            show Calls Tryd.prog 12 #[sp 0 0, .int .u8 1] w _
            go_enter Tryd.func12, Tryd.ntmps12
            go_wp2_with (go_at_call 21; ((with_reducible refine (C _).out.mono ?_); rintro e w1 ⟨rfl, k1⟩; have t := (((At2.new _ 0 0 23).al _).al _).then k1; have r := (((At2.new _ 0 0 23).al _)).then k1; have n := ((At2.new _ 0 0 23)).then k1; simp at r n; replace hb := bThen (bAl (bAl (bAl hb _) _) _) k1; have t0 := t.c0; have t1 := t.c1; have t2 := t.f0; have t3 := t.f1; have tl := t.lt; have r0 := r.c0; have r1 := r.c1; have g0 := r.f0; have g1 := r.f1; have rl := r.lt; have n0 := n.c0; have n1 := n.c1; have nl := n.lt))
            exact ret_st_tmp rfl rfl rfl rfl (((r.store (by simp) _).store (by simp) _).set _ _) ⟨by rw [HV.out]; rfl, bSet (bStore (bStore hb (Nat.le_refl _) _) (Nat.le_refl _) _) (by simp) _ _⟩
          · have hc : canS d s 1 = true := canS_iff.2 ⟨h1, by omega, fun q => absurd q hd⟩
            have hm := may_more hc
            rw [show addD 1 = 1 from rfl, show addS 1 = 1 from rfl] at hm
            by_cases x1 : 1048576 < d + 1
            · skip
              have HV := Lib.hid (nx_full hc (by rw [show addD 1 = 1 from rfl, show addS 1 = 1 from rfl, hm]; simp; omega))
              clear hm hc
              rw [h1] at C; clear h1
              generalize nxV d s 1 = V at *
              show Calls Tryd.prog 12 #[sp d s, .int .u8 1] w _
              go_enter Tryd.func12, Tryd.ntmps12
              go_wp2_with (go_at_call 21; ((with_reducible refine (C _).out.mono ?_); rintro e w1 ⟨rfl, k1⟩; have t := (((At2.new _ d s 23).al _).al _).then k1; have r := (((At2.new _ 0 0 23).al _)).then k1; have n := ((At2.new _ 0 0 23)).then k1; simp at r n; replace hb := bThen (bAl (bAl (bAl hb _) _) _) k1; have t0 := t.c0; have t1 := t.c1; have t2 := t.f0; have t3 := t.f1; have tl := t.lt; have r0 := r.c0; have r1 := r.c1; have g0 := r.f0; have g1 := r.f1; have rl := r.lt; have n0 := n.c0; have n1 := n.c1; have nl := n.lt))
              exact ret_st_tmp rfl rfl rfl rfl (((r.store (by simp) _).store (by simp) _).set _ _) ⟨by rw [HV.out]; rfl, bSet (bStore (bStore hb (Nat.le_refl _) _) (Nat.le_refl _) _) (by simp) _ _⟩
            · skip
              by_cases x2 : 1048576 < s + 1
              · skip
                have HV := Lib.hid (nx_full hc (by rw [show addD 1 = 1 from rfl, show addS 1 = 1 from rfl, hm]; simp; omega))
                clear hm hc
                rw [h1] at C; clear h1
                generalize nxV d s 1 = V at *
                show Calls Tryd.prog 12 #[sp d s, .int .u8 1] w _
                go_enter Tryd.func12, Tryd.ntmps12
                go_wp2_with (go_at_call 21; ((with_reducible refine (C _).out.mono ?_); rintro e w1 ⟨rfl, k1⟩; have t := (((At2.new _ d s 23).al _).al _).then k1; have r := (((At2.new _ 0 0 23).al _)).then k1; have n := ((At2.new _ 0 0 23)).then k1; simp at r n; replace hb := bThen (bAl (bAl (bAl hb _) _) _) k1; have t0 := t.c0; have t1 := t.c1; have t2 := t.f0; have t3 := t.f1; have tl := t.lt; have r0 := r.c0; have r1 := r.c1; have g0 := r.f0; have g1 := r.f1; have rl := r.lt; have n0 := n.c0; have n1 := n.c1; have nl := n.lt))
                exact ret_st_tmp rfl rfl rfl rfl (((r.store (by simp) _).store (by simp) _).set _ _) ⟨by rw [HV.out]; rfl, bSet (bStore (bStore hb (Nat.le_refl _) _) (Nat.le_refl _) _) (by simp) _ _⟩
              · skip
                have HV := Lib.hid (nx_yes hc (by rw [show addD 1 = 1 from rfl, show addS 1 = 1 from rfl, hm]; simp; omega))
                rw [show addD 1 = 1 from rfl, show addS 1 = 1 from rfl] at HV
                clear hm hc
                rw [h1] at C; clear h1
                generalize nxV d s 1 = V at *
                show Calls Tryd.prog 12 #[sp d s, .int .u8 1] w _
                go_enter Tryd.func12, Tryd.ntmps12
                go_wp2_with (go_at_call 21; ((with_reducible refine (C _).out.mono ?_); rintro e w1 ⟨rfl, k1⟩; have t := (((At2.new _ d s 23).al _).al _).then k1; have r := (((At2.new _ 0 0 23).al _)).then k1; have n := ((At2.new _ 0 0 23)).then k1; simp at r n; replace hb := bThen (bAl (bAl (bAl hb _) _) _) k1; have t0 := t.c0; have t1 := t.c1; have t2 := t.f0; have t3 := t.f1; have tl := t.lt; have r0 := r.c0; have r1 := r.c1; have g0 := r.f0; have g1 := r.f1; have rl := r.lt; have n0 := n.c0; have n1 := n.c1; have nl := n.lt))
                exact ret_st_tmp rfl rfl rfl rfl (((r.store (by simp) _).store (by simp) _).set _ _) ⟨by rw [HV.out]; rfl, bSet (bStore (bStore hb (Nat.le_refl _) _) (Nat.le_refl _) _) (by simp) _ _⟩
        · by_cases hd : d = 0
          · have d0 := hd; subst hd
            obtain rfl : s = 0 := by omega
            clear b1 bd d0
            have HV := Lib.hid (nx_no (d := 0) (s := 0) (k := 2) (by decide))
            rw [h1] at C; clear h1
            generalize nxV 0 0 2 = V at *
            show Calls Tryd.prog 12 #[sp 0 0, .int .u8 2] w _
            go_enter Tryd.func12, Tryd.ntmps12
            go_wp2_with (go_at_call 21; ((with_reducible refine (C _).out.mono ?_); rintro e w1 ⟨rfl, k1⟩; have t := (((At2.new _ 0 0 23).al _).al _).then k1; have r := (((At2.new _ 0 0 23).al _)).then k1; have n := ((At2.new _ 0 0 23)).then k1; simp at r n; replace hb := bThen (bAl (bAl (bAl hb _) _) _) k1; have t0 := t.c0; have t1 := t.c1; have t2 := t.f0; have t3 := t.f1; have tl := t.lt; have r0 := r.c0; have r1 := r.c1; have g0 := r.f0; have g1 := r.f1; have rl := r.lt; have n0 := n.c0; have n1 := n.c1; have nl := n.lt))
            exact ret_st_tmp rfl rfl rfl rfl (r.set _ _) ⟨by rw [HV.out]; rfl, bSet hb (by simp) _ _⟩
          · have hc : canS d s 2 = true := canS_iff.2 ⟨h1, by omega, fun q => absurd q hd⟩
            have hm := may_more hc
            rw [show addD 2 = 1 from rfl, show addS 2 = 0 from rfl] at hm
            by_cases x1 : 1048576 < d + 1
            · skip
              have HV := Lib.hid (nx_full hc (by rw [show addD 2 = 1 from rfl, show addS 2 = 0 from rfl, hm]; simp; omega))
              clear hm hc
              rw [h1] at C; clear h1
              generalize nxV d s 2 = V at *
              show Calls Tryd.prog 12 #[sp d s, .int .u8 2] w _
              go_enter Tryd.func12, Tryd.ntmps12
              go_wp2_with (go_at_call 21; ((with_reducible refine (C _).out.mono ?_); rintro e w1 ⟨rfl, k1⟩; have t := (((At2.new _ d s 23).al _).al _).then k1; have r := (((At2.new _ 0 0 23).al _)).then k1; have n := ((At2.new _ 0 0 23)).then k1; simp at r n; replace hb := bThen (bAl (bAl (bAl hb _) _) _) k1; have t0 := t.c0; have t1 := t.c1; have t2 := t.f0; have t3 := t.f1; have tl := t.lt; have r0 := r.c0; have r1 := r.c1; have g0 := r.f0; have g1 := r.f1; have rl := r.lt; have n0 := n.c0; have n1 := n.c1; have nl := n.lt))
              exact ret_st_tmp rfl rfl rfl rfl ((r.store (by simp) _).set _ _) ⟨by rw [HV.out]; rfl, bSet (bStore hb (Nat.le_refl _) _) (by simp) _ _⟩
            · skip
              have x2 : ¬ 1048576 < s := by omega
              have HV := Lib.hid (nx_yes hc (by rw [show addD 2 = 1 from rfl, show addS 2 = 0 from rfl, hm]; simp; omega))
              rw [show addD 2 = 1 from rfl, show addS 2 = 0 from rfl] at HV
              simp only [Int.add_zero] at HV
              clear hm hc
              rw [h1] at C; clear h1
              generalize nxV d s 2 = V at *
              show Calls Tryd.prog 12 #[sp d s, .int .u8 2] w _
              go_enter Tryd.func12, Tryd.ntmps12
              go_wp2_with (go_at_call 21; ((with_reducible refine (C _).out.mono ?_); rintro e w1 ⟨rfl, k1⟩; have t := (((At2.new _ d s 23).al _).al _).then k1; have r := (((At2.new _ 0 0 23).al _)).then k1; have n := ((At2.new _ 0 0 23)).then k1; simp at r n; replace hb := bThen (bAl (bAl (bAl hb _) _) _) k1; have t0 := t.c0; have t1 := t.c1; have t2 := t.f0; have t3 := t.f1; have tl := t.lt; have r0 := r.c0; have r1 := r.c1; have g0 := r.f0; have g1 := r.f1; have rl := r.lt; have n0 := n.c0; have n1 := n.c1; have nl := n.lt))
              exact ret_st_tmp rfl rfl rfl rfl ((r.store (by simp) _).set _ _) ⟨by rw [HV.out]; rfl, bSet (bStore hb (Nat.le_refl _) _) (by simp) _ _⟩
        · by_cases hd : d = 0
          · have d0 := hd; subst hd
            obtain rfl : s = 0 := by omega
            clear b1 bd d0
            have HV := Lib.hid (nx_no (d := 0) (s := 0) (k := 3) (by decide))
            rw [h1] at C; clear h1
            generalize nxV 0 0 3 = V at *
            show Calls Tryd.prog 12 #[sp 0 0, .int .u8 3] w _
            go_enter Tryd.func12, Tryd.ntmps12
            go_wp2_with (go_at_call 21; ((with_reducible refine (C _).out.mono ?_); rintro e w1 ⟨rfl, k1⟩; have t := (((At2.new _ 0 0 23).al _).al _).then k1; have r := (((At2.new _ 0 0 23).al _)).then k1; have n := ((At2.new _ 0 0 23)).then k1; simp at r n; replace hb := bThen (bAl (bAl (bAl hb _) _) _) k1; have t0 := t.c0; have t1 := t.c1; have t2 := t.f0; have t3 := t.f1; have tl := t.lt; have r0 := r.c0; have r1 := r.c1; have g0 := r.f0; have g1 := r.f1; have rl := r.lt; have n0 := n.c0; have n1 := n.c1; have nl := n.lt))
            exact ret_st_tmp rfl rfl rfl rfl (r.set _ _) ⟨by rw [HV.out]; rfl, bSet hb (by simp) _ _⟩
          · have hc : canS d s 3 = true := canS_iff.2 ⟨h1, by omega, fun q => absurd q hd⟩
            have hm := may_more hc
            rw [show addD 3 = 0 from rfl, show addS 3 = 1 from rfl] at hm
            have x1 : ¬ 1048576 < d := by omega
            by_cases x2 : 1048576 < s + 1
            · skip
              have HV := Lib.hid (nx_full hc (by rw [show addD 3 = 0 from rfl, show addS 3 = 1 from rfl, hm]; simp; omega))
              clear hm hc
              rw [h1] at C; clear h1
              generalize nxV d s 3 = V at *
              show Calls Tryd.prog 12 #[sp d s, .int .u8 3] w _
              go_enter Tryd.func12, Tryd.ntmps12
              go_wp2_with (go_at_call 21; ((with_reducible refine (C _).out.mono ?_); rintro e w1 ⟨rfl, k1⟩; have t := (((At2.new _ d s 23).al _).al _).then k1; have r := (((At2.new _ 0 0 23).al _)).then k1; have n := ((At2.new _ 0 0 23)).then k1; simp at r n; replace hb := bThen (bAl (bAl (bAl hb _) _) _) k1; have t0 := t.c0; have t1 := t.c1; have t2 := t.f0; have t3 := t.f1; have tl := t.lt; have r0 := r.c0; have r1 := r.c1; have g0 := r.f0; have g1 := r.f1; have rl := r.lt; have n0 := n.c0; have n1 := n.c1; have nl := n.lt))
              exact ret_st_tmp rfl rfl rfl rfl ((r.store (by simp) _).set _ _) ⟨by rw [HV.out]; rfl, bSet (bStore hb (Nat.le_refl _) _) (by simp) _ _⟩
            · skip
              have HV := Lib.hid (nx_yes hc (by rw [show addD 3 = 0 from rfl, show addS 3 = 1 from rfl, hm]; simp; omega))
              rw [show addD 3 = 0 from rfl, show addS 3 = 1 from rfl] at HV
              simp only [Int.add_zero] at HV
              clear hm hc
              rw [h1] at C; clear h1
              generalize nxV d s 3 = V at *
              show Calls Tryd.prog 12 #[sp d s, .int .u8 3] w _
              go_enter Tryd.func12, Tryd.ntmps12
              go_wp2_with (go_at_call 21; ((with_reducible refine (C _).out.mono ?_); rintro e w1 ⟨rfl, k1⟩; have t := (((At2.new _ d s 23).al _).al _).then k1; have r := (((At2.new _ 0 0 23).al _)).then k1; have n := ((At2.new _ 0 0 23)).then k1; simp at r n; replace hb := bThen (bAl (bAl (bAl hb _) _) _) k1; have t0 := t.c0; have t1 := t.c1; have t2 := t.f0; have t3 := t.f1; have tl := t.lt; have r0 := r.c0; have r1 := r.c1; have g0 := r.f0; have g1 := r.f1; have rl := r.lt; have n0 := n.c0; have n1 := n.c1; have nl := n.lt))
              exact ret_st_tmp rfl rfl rfl rfl ((r.store (by simp) _).set _ _) ⟨by rw [HV.out]; rfl, bSet (bStore hb (Nat.le_refl _) _) (by simp) _ _⟩
        · by_cases hd : d = 0
          · have d0 := hd; subst hd
            obtain rfl : s = 0 := by omega
            clear b1 bd d0
            have HV := Lib.hid (nx_no (d := 0) (s := 0) (k := 4) (by decide))
            rw [h1] at C; clear h1
            generalize nxV 0 0 4 = V at *
            show Calls Tryd.prog 12 #[sp 0 0, .int .u8 4] w _
            go_enter Tryd.func12, Tryd.ntmps12
            go_wp2_with (go_at_call 21; ((with_reducible refine (C _).out.mono ?_); rintro e w1 ⟨rfl, k1⟩; have t := (((At2.new _ 0 0 23).al _).al _).then k1; have r := (((At2.new _ 0 0 23).al _)).then k1; have n := ((At2.new _ 0 0 23)).then k1; simp at r n; replace hb := bThen (bAl (bAl (bAl hb _) _) _) k1; have t0 := t.c0; have t1 := t.c1; have t2 := t.f0; have t3 := t.f1; have tl := t.lt; have r0 := r.c0; have r1 := r.c1; have g0 := r.f0; have g1 := r.f1; have rl := r.lt; have n0 := n.c0; have n1 := n.c1; have nl := n.lt))
            exact ret_st_tmp rfl rfl rfl rfl (r.set _ _) ⟨by rw [HV.out]; rfl, bSet hb (by simp) _ _⟩
          · have hc : canS d s 4 = true := canS_iff.2 ⟨h1, by omega, fun q => absurd q hd⟩
            have hm := may_more hc
            rw [show addD 4 = 1 from rfl, show addS 4 = 0 from rfl] at hm
            by_cases x1 : 1048576 < d + 1
            · skip
              have HV := Lib.hid (nx_full hc (by rw [show addD 4 = 1 from rfl, show addS 4 = 0 from rfl, hm]; simp; omega))
              clear hm hc
              rw [h1] at C; clear h1
              generalize nxV d s 4 = V at *
              show Calls Tryd.prog 12 #[sp d s, .int .u8 4] w _
              go_enter Tryd.func12, Tryd.ntmps12
              go_wp2_with (go_at_call 21; ((with_reducible refine (C _).out.mono ?_); rintro e w1 ⟨rfl, k1⟩; have t := (((At2.new _ d s 23).al _).al _).then k1; have r := (((At2.new _ 0 0 23).al _)).then k1; have n := ((At2.new _ 0 0 23)).then k1; simp at r n; replace hb := bThen (bAl (bAl (bAl hb _) _) _) k1; have t0 := t.c0; have t1 := t.c1; have t2 := t.f0; have t3 := t.f1; have tl := t.lt; have r0 := r.c0; have r1 := r.c1; have g0 := r.f0; have g1 := r.f1; have rl := r.lt; have n0 := n.c0; have n1 := n.c1; have nl := n.lt))
              exact ret_st_tmp rfl rfl rfl rfl ((r.store (by simp) _).set _ _) ⟨by rw [HV.out]; rfl, bSet (bStore hb (Nat.le_refl _) _) (by simp) _ _⟩
            · skip
              have x2 : ¬ 1048576 < s := by omega
              have HV := Lib.hid (nx_yes hc (by rw [show addD 4 = 1 from rfl, show addS 4 = 0 from rfl, hm]; simp; omega))
              rw [show addD 4 = 1 from rfl, show addS 4 = 0 from rfl] at HV
              simp only [Int.add_zero] at HV
              clear hm hc
              rw [h1] at C; clear h1
              generalize nxV d s 4 = V at *
              show Calls Tryd.prog 12 #[sp d s, .int .u8 4] w _
              go_enter Tryd.func12, Tryd.ntmps12
              go_wp2_with (go_at_call 21; ((with_reducible refine (C _).out.mono ?_); rintro e w1 ⟨rfl, k1⟩; have t := (((At2.new _ d s 23).al _).al _).then k1; have r := (((At2.new _ 0 0 23).al _)).then k1; have n := ((At2.new _ 0 0 23)).then k1; simp at r n; replace hb := bThen (bAl (bAl (bAl hb _) _) _) k1; have t0 := t.c0; have t1 := t.c1; have t2 := t.f0; have t3 := t.f1; have tl := t.lt; have r0 := r.c0; have r1 := r.c1; have g0 := r.f0; have g1 := r.f1; have rl := r.lt; have n0 := n.c0; have n1 := n.c1; have nl := n.lt))
              exact ret_st_tmp rfl rfl rfl rfl ((r.store (by simp) _).set _ _) ⟨by rw [HV.out]; rfl, bSet (bStore hb (Nat.le_refl _) _) (by simp) _ _⟩
end Go.Proofs.YthdphdmiafkkgaaDoor.UX
