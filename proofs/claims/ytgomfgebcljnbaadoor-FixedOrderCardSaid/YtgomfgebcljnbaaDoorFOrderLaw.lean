/-
  WALK: the law FixedOrder.
-/
import Derived.Test.YtgomfgebcljnbaaDoorFSumsLaw
namespace Go.Proofs.YtgomfgebcljnbaaDoor
open Go.RowKit FixMath
set_option maxRecDepth 100000
set_option linter.unusedVariables false
set_option linter.unusedSimpArgs false

theorem cmpZ_flip (x y : Int) : cmpZ y x = -cmpZ x y := by unfold cmpZ; split <;> (try split) <;> (try split) <;> omega
theorem cmpZ_rel (x y z : Int) : (0 < cmpZ x y ∨ 0 < cmpZ y z ∨ cmpZ x z ≤ 0) ∧ (0 ≤ cmpZ x y ∨ 0 < cmpZ y z ∨ cmpZ x z < 0) := by
  unfold cmpZ; (repeat' split) <;> omega
theorem valZ_up (a : Int) (da db : Nat) (h : da ≤ db) (hb : db ≤ 6) : valZ (a * unitN (db - da)) db = valZ a da := by
  unfold valZ
  have := unitN_mul (a := db - da) (b := 6 - db) (by omega)
  rw [show db - da + (6 - db) = 6 - da by omega] at this
  rw [Int.mul_assoc, ← this]; rfl
theorem cmpZ_self (x : Int) : cmpZ x x = 0 := cmpZ_eq
theorem cmpZ_less {x y : Int} (h : x < y) : cmpZ x y = -1 := by unfold cmpZ; rw [if_pos h]

set_option maxHeartbeats 4000000 in
theorem order_no (a b c : Int) (da db dc : Nat) (w : World) (hu : Units w) (h : mayB a = false ∨ (mayB a = true ∧ mayB b = false) ∨ (mayB a = true ∧ mayB b = true ∧ mayB c = false)) :
    Calls Tryd.prog 8 #[.int .i64 a, .int .i64 b, .int .i64 c, .int .u8 da, .int .u8 db, .int .u8 dc] w fun e w' => e = .returned (.bool true) ∧ Below w.heap.size w w' := by
  have hb : Below w.heap.size w w := Below.refl _ _
  have CA := Lib.hid (awake_any w hu)
  have HREL : Hid ((0 : Int) = 0) := Lib.hid rfl
  clear hu
  rcases h with f1 | ⟨f1, f2⟩ | ⟨f1, f2, f3⟩
  all_goals
    go_enter Tryd.func8, Tryd.ntmps8
    go_wp2_with (first
      | (go_at_call 24; (refine CA.out.mono ?_; rintro e w1 ⟨rfl, h1⟩; replace hb := h1))
      | (go_at_call 14; (refine (may_any _ _).mono ?_; rintro e w1 ⟨rfl, rfl⟩)))
    all_goals first
      | (go_ret; exact ⟨rfl, hb⟩)
      | (exfalso; have r := HREL.out; omega)

set_option maxHeartbeats 8000000 in
theorem order_yes (a b c : Int) (da db dc : Nat) (w : World) (hu : Units w) (f1 : mayB a = true) (f2 : mayB b = true) (f3 : mayB c = true) (h1 : da ≤ 255) (h2 : db ≤ 255) (h3 : dc ≤ 255) :
    Calls Tryd.prog 8 #[.int .i64 a, .int .i64 b, .int .i64 c, .int .u8 da, .int .u8 db, .int .u8 dc] w fun e w' => e = .returned (.bool true) ∧ Below w.heap.size w w' := by
  have hb : Below w.heap.size w w := Below.refl _ _
  have CA := Lib.hid (awake_any w hu)
  have HU := Lib.hid hu
  obtain ⟨DA, hDA⟩ : ∃ D : Nat, D = da % 7 := ⟨_, rfl⟩
  obtain ⟨DB, hDB⟩ : ∃ D : Nat, D = db % 7 := ⟨_, rfl⟩
  obtain ⟨DC, hDC⟩ : ∃ D : Nat, D = dc % 7 := ⟨_, rfl⟩
  have DA6 : DA ≤ 6 := by omega
  have DB6 : DB ≤ 6 := by omega
  have DC6 : DC ≤ 6 := by omega
  have eA : (da : Int) % 7 = (DA : Int) := by omega
  have eB : (db : Int) % 7 = (DB : Int) := by omega
  have eC : (dc : Int) % 7 = (DC : Int) := by omega
  obtain ⟨ab, hab, ab1, ab2, Cab⟩ := cmpC a DA b DB (countsB_t f1 DA6) (countsB_t f2 DB6)
  obtain ⟨ba, hba, ba1, ba2, Cba⟩ := cmpC b DB a DA (countsB_t f2 DB6) (countsB_t f1 DA6)
  obtain ⟨bc, hbc, bc1, bc2, Cbc⟩ := cmpC b DB c DC (countsB_t f2 DB6) (countsB_t f3 DC6)
  obtain ⟨ac, hac, ac1, ac2, Cac⟩ := cmpC a DA c DC (countsB_t f1 DA6) (countsB_t f3 DC6)
  have HREL : Hid ((0 < ab ∨ 0 < bc ∨ ac ≤ 0) ∧ (0 ≤ ab ∨ 0 < bc ∨ ac < 0)) := Lib.hid (by rw [hab, hbc, hac]; exact cmpZ_rel _ _ _)
  have hba' : ba = -ab := by rw [hba, hab, cmpZ_flip]
  have HAB := Lib.hid hab
  have Kab := fun W h => Lib.hid (Cab W h)
  have Kba := fun W h => Lib.hid (Cba W h)
  have Kbc := fun W h => Lib.hid (Cbc W h)
  have Kac := fun W h => Lib.hid (Cac W h)
  clear Cab Cba Cbc Cac hab hba hbc hac hu hDA hDB hDC ba1 ba2
  subst hba'
  have a15 := mayB_out f1
  -- one unit more
  have hplus : ∃ K : (∀ W, Units W → Hid (Calls Tryd.prog 20 #[.int .i64 a, .int .u8 DA, .int .i64 (a + 1), .int .u8 DA] W fun e w' => e = .returned (.tuple #[.int .i64 (if a < 1000000000000000 then -1 else 0), .int .i64 0]) ∧ Dr W w')) ∨ ¬ a < 1000000000000000, True := by
    refine ⟨?_, trivial⟩
    by_cases hl : a < 1000000000000000
    · refine .inl fun W hW => Lib.hid ?_
      obtain ⟨p, hp, _, _, Cp⟩ := cmpC a DA (a + 1) DA (countsB_t f1 DA6) (countsB_t (by simp [mayB]; omega) DA6)
      rw [cmpZ_less ((valZ_mul DA6).1 (by omega))] at hp
      rw [if_pos hl]
      subst hp
      exact Cp W hW
    · exact .inr hl
  obtain ⟨hplus, _⟩ := hplus
  by_cases hdd : DA ≤ DB
  · have hdd2 : ¬ DB < DA := by omega
    by_cases hm : mayB (a * unitN (DB - DA)) = true
    · obtain ⟨m, em⟩ : ∃ m : Int, m = a * unitN (DB - DA) := ⟨_, rfl⟩
      have hS := scaleV_up (countsB_t f1 DA6) DB6 hdd2 hm
      rw [← em] at hS hm
      obtain ⟨x, hx, _, _, Cx⟩ := cmpC a DA m DB (countsB_t f1 DA6) (countsB_t hm DB6)
      obtain ⟨y, hy, _, _, Cy⟩ := cmpC m DB b DB (countsB_t hm DB6) (countsB_t f2 DB6)
      have ev : valZ m DB = valZ a DA := by rw [em]; exact valZ_up a DA DB hdd DB6
      rw [ev, cmpZ_self] at hx
      rw [ev, ← HAB.out] at hy
      subst hx hy
      have Kx := fun W h => Lib.hid (Cx W h)
      have Ky := fun W h => Lib.hid (Cy W h)
      have CS := fun W h => Lib.hid (scale_any a DA DB W h)
      rw [hS] at CS
      clear Cx Cy ev hS em hm HAB
      by_cases hl : a < 1000000000000000
      · have Kz : ∀ W, Units W → Hid (Calls Tryd.prog 20 #[.int .i64 a, .int .u8 DA, .int .i64 (a + 1), .int .u8 DA] W fun e w' => e = .returned (.tuple #[.int .i64 (-1), .int .i64 0]) ∧ Dr W w') := by
          rcases hplus with h | h
          · rw [if_pos hl] at h; exact h
          · exact absurd hl h
        clear hplus
        go_enter Tryd.func8, Tryd.ntmps8
        go_wp2_with (first
          | (go_at_call 24; (refine CA.out.mono ?_; rintro e w1 ⟨rfl, h1⟩; replace hb := h1))
          | (go_at_call 14; (refine (may_any _ _).mono ?_; rintro e w1 ⟨rfl, rfl⟩))
          | (go_at_call 20; (first | (with_reducible refine (Kab _ (HU.out.below hb)).out.mono ?_) | (with_reducible refine (Kba _ (HU.out.below hb)).out.mono ?_) | (with_reducible refine (Kbc _ (HU.out.below hb)).out.mono ?_) | (with_reducible refine (Kac _ (HU.out.below hb)).out.mono ?_) | (with_reducible refine (Kx _ (HU.out.below hb)).out.mono ?_) | (with_reducible refine (Ky _ (HU.out.below hb)).out.mono ?_) | (with_reducible refine (Kz _ (HU.out.below hb)).out.mono ?_)); rintro e w1 ⟨rfl, hr⟩; replace hb := hb.trans ((hr.below _).mono hb.size))
          | (go_at_call 18; (refine (CS _ (HU.out.below hb)).out.mono ?_; rintro e w1 ⟨rfl, hr⟩; replace hb := hb.trans ((hr.below _).mono hb.size))))
        all_goals first
          | (go_ret; exact ⟨rfl, hb⟩)
          | (exfalso; have r := HREL.out; omega)
      · clear hplus
        go_enter Tryd.func8, Tryd.ntmps8
        go_wp2_with (first
          | (go_at_call 24; (refine CA.out.mono ?_; rintro e w1 ⟨rfl, h1⟩; replace hb := h1))
          | (go_at_call 14; (refine (may_any _ _).mono ?_; rintro e w1 ⟨rfl, rfl⟩))
          | (go_at_call 20; (first | (with_reducible refine (Kab _ (HU.out.below hb)).out.mono ?_) | (with_reducible refine (Kba _ (HU.out.below hb)).out.mono ?_) | (with_reducible refine (Kbc _ (HU.out.below hb)).out.mono ?_) | (with_reducible refine (Kac _ (HU.out.below hb)).out.mono ?_) | (with_reducible refine (Kx _ (HU.out.below hb)).out.mono ?_) | (with_reducible refine (Ky _ (HU.out.below hb)).out.mono ?_)); rintro e w1 ⟨rfl, hr⟩; replace hb := hb.trans ((hr.below _).mono hb.size))
          | (go_at_call 18; (refine (CS _ (HU.out.below hb)).out.mono ?_; rintro e w1 ⟨rfl, hr⟩; replace hb := hb.trans ((hr.below _).mono hb.size))))
        all_goals first
          | (go_ret; exact ⟨rfl, hb⟩)
          | (exfalso; have r := HREL.out; omega)
    · have hS := scaleV_far (countsB_t f1 DA6) DB6 hdd2 hm
      have CS := fun W h => Lib.hid (scale_any a DA DB W h)
      rw [hS] at CS
      clear hS hm HAB
      by_cases hl : a < 1000000000000000
      · have Kz : ∀ W, Units W → Hid (Calls Tryd.prog 20 #[.int .i64 a, .int .u8 DA, .int .i64 (a + 1), .int .u8 DA] W fun e w' => e = .returned (.tuple #[.int .i64 (-1), .int .i64 0]) ∧ Dr W w') := by
          rcases hplus with h | h
          · rw [if_pos hl] at h; exact h
          · exact absurd hl h
        clear hplus
        go_enter Tryd.func8, Tryd.ntmps8
        go_wp2_with (first
          | (go_at_call 24; (refine CA.out.mono ?_; rintro e w1 ⟨rfl, h1⟩; replace hb := h1))
          | (go_at_call 14; (refine (may_any _ _).mono ?_; rintro e w1 ⟨rfl, rfl⟩))
          | (go_at_call 20; (first | (with_reducible refine (Kab _ (HU.out.below hb)).out.mono ?_) | (with_reducible refine (Kba _ (HU.out.below hb)).out.mono ?_) | (with_reducible refine (Kbc _ (HU.out.below hb)).out.mono ?_) | (with_reducible refine (Kac _ (HU.out.below hb)).out.mono ?_) | (with_reducible refine (Kz _ (HU.out.below hb)).out.mono ?_)); rintro e w1 ⟨rfl, hr⟩; replace hb := hb.trans ((hr.below _).mono hb.size))
          | (go_at_call 18; (refine (CS _ (HU.out.below hb)).out.mono ?_; rintro e w1 ⟨rfl, hr⟩; replace hb := hb.trans ((hr.below _).mono hb.size))))
        all_goals first
          | (go_ret; exact ⟨rfl, hb⟩)
          | (exfalso; have r := HREL.out; omega)
      · clear hplus
        go_enter Tryd.func8, Tryd.ntmps8
        go_wp2_with (first
          | (go_at_call 24; (refine CA.out.mono ?_; rintro e w1 ⟨rfl, h1⟩; replace hb := h1))
          | (go_at_call 14; (refine (may_any _ _).mono ?_; rintro e w1 ⟨rfl, rfl⟩))
          | (go_at_call 20; (first | (with_reducible refine (Kab _ (HU.out.below hb)).out.mono ?_) | (with_reducible refine (Kba _ (HU.out.below hb)).out.mono ?_) | (with_reducible refine (Kbc _ (HU.out.below hb)).out.mono ?_) | (with_reducible refine (Kac _ (HU.out.below hb)).out.mono ?_)); rintro e w1 ⟨rfl, hr⟩; replace hb := hb.trans ((hr.below _).mono hb.size))
          | (go_at_call 18; (refine (CS _ (HU.out.below hb)).out.mono ?_; rintro e w1 ⟨rfl, hr⟩; replace hb := hb.trans ((hr.below _).mono hb.size))))
        all_goals first
          | (go_ret; exact ⟨rfl, hb⟩)
          | (exfalso; have r := HREL.out; omega)
  · have hdd2 : DB < DA := by omega
    obtain ⟨m, x, e0, hS⟩ := scaleV_form a DA DB
    have CS := fun W h => Lib.hid (scale_any a DA DB W h)
    rw [hS] at CS
    clear hS HAB
    by_cases hl : a < 1000000000000000
    · have Kz : ∀ W, Units W → Hid (Calls Tryd.prog 20 #[.int .i64 a, .int .u8 DA, .int .i64 (a + 1), .int .u8 DA] W fun e w' => e = .returned (.tuple #[.int .i64 (-1), .int .i64 0]) ∧ Dr W w') := by
        rcases hplus with h | h
        · rw [if_pos hl] at h; exact h
        · exact absurd hl h
      clear hplus
      go_enter Tryd.func8, Tryd.ntmps8
      go_wp2_with (first
        | (go_at_call 24; (refine CA.out.mono ?_; rintro e w1 ⟨rfl, h1⟩; replace hb := h1))
        | (go_at_call 14; (refine (may_any _ _).mono ?_; rintro e w1 ⟨rfl, rfl⟩))
        | (go_at_call 20; (first | (with_reducible refine (Kab _ (HU.out.below hb)).out.mono ?_) | (with_reducible refine (Kba _ (HU.out.below hb)).out.mono ?_) | (with_reducible refine (Kbc _ (HU.out.below hb)).out.mono ?_) | (with_reducible refine (Kac _ (HU.out.below hb)).out.mono ?_) | (with_reducible refine (Kz _ (HU.out.below hb)).out.mono ?_)); rintro e w1 ⟨rfl, hr⟩; replace hb := hb.trans ((hr.below _).mono hb.size))
        | (go_at_call 18; (refine (CS _ (HU.out.below hb)).out.mono ?_; rintro e w1 ⟨rfl, hr⟩; replace hb := hb.trans ((hr.below _).mono hb.size))))
      all_goals first
        | (go_ret; exact ⟨rfl, hb⟩)
        | (exfalso; have r := HREL.out; omega)
    · clear hplus
      go_enter Tryd.func8, Tryd.ntmps8
      go_wp2_with (first
        | (go_at_call 24; (refine CA.out.mono ?_; rintro e w1 ⟨rfl, h1⟩; replace hb := h1))
        | (go_at_call 14; (refine (may_any _ _).mono ?_; rintro e w1 ⟨rfl, rfl⟩))
        | (go_at_call 20; (first | (with_reducible refine (Kab _ (HU.out.below hb)).out.mono ?_) | (with_reducible refine (Kba _ (HU.out.below hb)).out.mono ?_) | (with_reducible refine (Kbc _ (HU.out.below hb)).out.mono ?_) | (with_reducible refine (Kac _ (HU.out.below hb)).out.mono ?_)); rintro e w1 ⟨rfl, hr⟩; replace hb := hb.trans ((hr.below _).mono hb.size))
        | (go_at_call 18; (refine (CS _ (HU.out.below hb)).out.mono ?_; rintro e w1 ⟨rfl, hr⟩; replace hb := hb.trans ((hr.below _).mono hb.size))))
      all_goals first
        | (go_ret; exact ⟨rfl, hb⟩)
        | (exfalso; have r := HREL.out; omega)

theorem order_walk (a b c : Int) (da db dc : Nat) (h1 : da ≤ 255) (h2 : db ≤ 255) (h3 : dc ≤ 255) (w : World) (hu : Units w) :
    Calls Tryd.prog 8 #[.int .i64 a, .int .i64 b, .int .i64 c, .int .u8 da, .int .u8 db, .int .u8 dc] w fun e w' => e = .returned (.bool true) ∧ Below w.heap.size w w' := by
  cases f1 : mayB a
  · exact order_no a b c da db dc w hu (.inl f1)
  · cases f2 : mayB b
    · exact order_no a b c da db dc w hu (.inr (.inl ⟨f1, f2⟩))
    · cases f3 : mayB c
      · exact order_no a b c da db dc w hu (.inr (.inr ⟨f1, f2, f3⟩))
      · exact order_yes a b c da db dc w hu f1 f2 f3 h1 h2 h3
end Go.Proofs.YtgomfgebcljnbaaDoor
