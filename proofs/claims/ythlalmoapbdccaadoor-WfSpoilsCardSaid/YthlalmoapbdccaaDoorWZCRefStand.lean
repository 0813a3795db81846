/-
  WALK: the document's Stand.
-/
import Derived.Test.YthlalmoapbdccaaDoorWZCStand
namespace Go.Proofs.YthlalmoapbdccaaDoor
open Go.RowKit
set_option maxRecDepth 100000
set_option linter.unusedVariables false
set_option linter.unusedSimpArgs false

theorem stand_one_no {o p : Ob} (hk : o.kind = 1) (h : o.parent ≠ ⟨#[]⟩ ∨ p ≠ zeroOb) : standE o p = 50 := by
  have hkd : kdB o.kind = true := by rw [hk]; rfl
  refine stand_no hkd ?_
  by_cases hp : p.kind = 0
  · rcases h with h | h
    · by_cases hz : p = zeroOb
      · subst hz; exact .inr (.inl h)
      · exact .inr (.inr ⟨hp, hz⟩)
    · exact .inr (.inr ⟨hp, h⟩)
  · refine .inl ?_
    rw [hk]
    show (p.kind == 0) = false
    simpa using hp
theorem stand_one_ok {o p : Ob} (hk : o.kind = 1) (h1 : o.parent = ⟨#[]⟩) (h2 : p = zeroOb) : standE o p = 0 := by
  refine stand_ok (by rw [hk]; rfl) (by rw [hk, h2]; rfl) (by rw [h1, h2]; rfl) (fun _ => h2)
theorem under_pos {k p : Nat} (h : underB k p = true) (hk : k ≠ 1) : p ≠ 0 := by
  intro e
  subst e
  have h9 := kdB_iff.1 (under_kd h)
  exact absurd h ((show ∀ k, k < 10 → k ≠ 1 → ¬ underB k 0 = true by decide +kernel) k (by omega) hk)
theorem ne_nil {a : ByteArray} (h : a ≠ ⟨#[]⟩) : a.toList.isEmpty = false := by
  cases e : a.toList.isEmpty with
  | false => rfl
  | true => exact absurd (of_nil (by simpa using e)) h
set_option maxHeartbeats 4000000 in
theorem refStand_any (o p : Ob) (w : World) (hk : o.kind ≤ 255) (hp : p.kind ≤ 255) :
    Calls Tryd.prog 44 #[ob o, ob p] w fun e w' => e = .returned (.int .i64 (standE o p)) ∧ Below w.heap.size w w' := by
  have CK := Lib.hid (fun W => known_any o.kind W)
  have CU := Lib.hid (fun W => refUnder_any o.kind p.kind W)
  have hb0 := bAl (bAl (Below.refl w.heap.size w) (.cells (obCells o) 31)) (.cells (obCells p) 31)
  rcases (show kdB o.kind = false ∨ kdB o.kind = true by cases kdB o.kind <;> simp) with h | h
  · have HV := Lib.hid (stand_kind (p := p) h)
    rw [h] at CK
    clear h
    go_enter Tryd.func44, Tryd.ntmps44
    go_wp2_with (go_at_call 60; ((with_reducible refine (CK.out _).mono ?_); rintro e w1 ⟨rfl, rfl⟩))
    go_ret
    exact ⟨by rw [HV.out]; rfl, hb0⟩
  · rw [h] at CK
    by_cases h1 : o.kind = 1
    · have i1 : ((o.kind : Int) == 1) = true := by simp; omega
      by_cases hpar : o.parent = ⟨#[]⟩
      · have i2 : o.parent.toList = [] := by rw [hpar, ByteArray.toList_eq]
        have HB := Lib.hid hb0
        by_cases hz0 : p = zeroOb
        · have HV := Lib.hid (stand_one_ok h1 hpar hz0)
          have HZ := Lib.hid (of_zero hz0)
          have HK := Lib.hid (show p.kind = 0 by rw [hz0]; rfl)
          clear h h1 hpar hz0 hb0
          go_enter Tryd.func44, Tryd.ntmps44
          go_wp2_with fail
          have m1 := (AtC.new w (obCells o) 31).al (.cells (obCells p) 31)
          have m2 := AtC.newAt (w := w.alloc (.cells (obCells o) 31)) (B := w.heap.size + 1) (C := obCells p) (T := 31) (by simp)
          generalize (w.alloc (.cells (obCells o) 31)).alloc (.cells (obCells p) 31) = W0 at *
          have c1 := m1.c
          have c2 := m2.c
          have l1 := m1.lt
          have l2 := m2.lt
          go_wp2_with (go_at_call 60; ((with_reducible refine (CK.out _).mono ?_); rintro e w1 ⟨rfl, rfl⟩))
          all_goals first
            | (go_ret; exact ⟨by rw [HV.out]; rfl, HB.out⟩)
            | (exfalso; have zk := HK.out; obtain ⟨z1, z2, z3, z4, z5, z6, z7, z8, z9, z10, z11, z12, z13⟩ := HZ.out; contradiction)
        · have HV := Lib.hid (stand_one_no h1 (.inr hz0))
          have HN := Lib.hid hz0
          clear h h1 hpar hz0 hb0
          go_enter Tryd.func44, Tryd.ntmps44
          go_wp2_with fail
          have m1 := (AtC.new w (obCells o) 31).al (.cells (obCells p) 31)
          have m2 := AtC.newAt (w := w.alloc (.cells (obCells o) 31)) (B := w.heap.size + 1) (C := obCells p) (T := 31) (by simp)
          generalize (w.alloc (.cells (obCells o) 31)).alloc (.cells (obCells p) 31) = W0 at *
          have c1 := m1.c
          have c2 := m2.c
          have l1 := m1.lt
          have l2 := m2.lt
          go_wp2_with (go_at_call 60; ((with_reducible refine (CK.out _).mono ?_); rintro e w1 ⟨rfl, rfl⟩))
          all_goals first
            | (go_ret; exact ⟨by rw [HV.out]; rfl, HB.out⟩)
            | (exfalso; exact HN.out (zero_of (by assumption) (by assumption) (by assumption) (by assumption) (by assumption) (by assumption) (by assumption) (by assumption) (by assumption) (by assumption) (by assumption) (by assumption) (by assumption) (by assumption)))
      · have i2 : o.parent.toList.isEmpty = false := ne_nil hpar
        have i3 : ¬ o.parent.toList = [] := fun e => hpar (of_nil e)
        have HV := Lib.hid (stand_one_no (p := p) h1 (.inl hpar))
        clear h h1 hpar
        go_enter Tryd.func44, Tryd.ntmps44
        go_wp2_with (go_at_call 60; ((with_reducible refine (CK.out _).mono ?_); rintro e w1 ⟨rfl, rfl⟩))
        go_ret
        exact ⟨by rw [HV.out]; rfl, hb0⟩
    · have i1 : ((o.kind : Int) == 1) = false := by simp; omega
      rcases (show underB o.kind p.kind = false ∨ underB o.kind p.kind = true by cases underB o.kind p.kind <;> simp) with hu | hu
      · have HV := Lib.hid (stand_no h (.inl hu))
        rw [hu] at CU
        clear h h1 hu
        go_enter Tryd.func44, Tryd.ntmps44
        go_wp2_with (first | (go_at_call 60; ((with_reducible refine (CK.out _).mono ?_); rintro e w1 ⟨rfl, rfl⟩)) | (go_at_call 61; ((with_reducible refine (CU.out _).mono ?_); rintro e w1 ⟨rfl, rfl⟩)))
        go_ret
        exact ⟨by rw [HV.out]; rfl, hb0⟩
      · rw [hu] at CU
        by_cases hph : o.parent = p.handle
        · have HV := Lib.hid (stand_ok h hu hph (fun q => absurd q (under_pos hu h1)))
          have i2 : (o.parent.toList == p.handle.toList) = true := by simp [hph]
          have i3 : (o.parent.toList != p.handle.toList) = false := by simp [hph]
          clear h h1 hu hph
          go_enter Tryd.func44, Tryd.ntmps44
          go_wp2_with (first | (go_at_call 60; ((with_reducible refine (CK.out _).mono ?_); rintro e w1 ⟨rfl, rfl⟩)) | (go_at_call 61; ((with_reducible refine (CU.out _).mono ?_); rintro e w1 ⟨rfl, rfl⟩)))
          go_ret
          exact ⟨by rw [HV.out]; rfl, hb0⟩
        · have HV := Lib.hid (stand_no h (.inr (.inl hph)))
          have i2 : (o.parent.toList == p.handle.toList) = false := str_ne hph
          have i3 : (o.parent.toList != p.handle.toList) = true := by simp [bne, i2]
          clear h h1 hu hph
          go_enter Tryd.func44, Tryd.ntmps44
          go_wp2_with (first | (go_at_call 60; ((with_reducible refine (CK.out _).mono ?_); rintro e w1 ⟨rfl, rfl⟩)) | (go_at_call 61; ((with_reducible refine (CU.out _).mono ?_); rintro e w1 ⟨rfl, rfl⟩)))
          go_ret
          exact ⟨by rw [HV.out]; rfl, hb0⟩
end Go.Proofs.YthlalmoapbdccaaDoor
