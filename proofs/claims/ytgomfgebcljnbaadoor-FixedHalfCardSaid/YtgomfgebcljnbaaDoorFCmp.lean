/-
  WALKS: Compare and Add (the program's and the document's).
-/
import Derived.Test.YtgomfgebcljnbaaDoorFNum2
namespace Go.Proofs.YtgomfgebcljnbaaDoor
open Go.RowKit FixMath
set_option maxRecDepth 100000
set_option linter.unusedVariables false

def cmpRes (a : Int) (da : Nat) (b : Int) (db : Nat) : Int := if wholeZ a da = wholeZ b db then cmpZ (restZ a da) (restZ b db) else cmpZ (wholeZ a da) (wholeZ b db)
def cmpV (a : Int) (da : Nat) (b : Int) (db : Nat) : Value := if countsB a da = true ∧ countsB b db = true then .tuple #[.int .i64 (cmpRes a da b db), .int .i64 0] else .tuple #[.int .i64 0, .int .i64 20]
theorem cmpV_t {a : Int} {da : Nat} {b : Int} {db : Nat} (h1 : countsB a da = true) (h2 : countsB b db = true) {c : Int} (hc : cmpRes a da b db = c) : cmpV a da b db = .tuple #[.int .i64 c, .int .i64 0] := by
  unfold cmpV; rw [if_pos ⟨h1, h2⟩, hc]
theorem cmpV_f {a : Int} {da : Nat} {b : Int} {db : Nat} (h : ¬ (countsB a da = true ∧ countsB b db = true)) : cmpV a da b db = .tuple #[.int .i64 0, .int .i64 20] := by
  unfold cmpV; rw [if_neg h]
theorem cmpZ_ne {a b : Int} (h : a ≠ b) : ¬ cmpZ a b = 0 := by unfold cmpZ; split <;> (try split) <;> omega
theorem cmpZ_eq {a : Int} : cmpZ a a = 0 := by unfold cmpZ; simp

theorem compare_any (a : Int) (da : Nat) (b : Int) (db : Nat) (w : World) (hu : Units w) :
    Calls Tryd.prog 20 #[.int .i64 a, .int .u8 da, .int .i64 b, .int .u8 db] w fun e w' => e = .returned (cmpV a da b db) ∧ Dr w w' := by
  by_cases h1 : countsB a da = true
  · by_cases h2 : countsB b db = true
    · obtain ⟨a1, a2, a3⟩ := countsB_out h1
      obtain ⟨b1, b2, b3⟩ := countsB_out h2
      have HU := Lib.hid hu
      have HV := Lib.hid (fun c => cmpV_t (c := c) h1 h2)
      clear hu
      by_cases he : wholeZ a da = wholeZ b db
      · have HR : Hid (cmpRes a da b db = cmpZ (restZ a da) (restZ b db)) := Lib.hid (by unfold cmpRes; rw [if_pos he])
        have hz : cmpZ (wholeZ a da) (wholeZ b db) = 0 := by rw [he]; exact cmpZ_eq
        clear he
        go_enter Tryd.func20, Tryd.ntmps20
        go_wp2_with (go_at_call 25; (refine (counts_any _ _ _).mono ?_; rintro e w' ⟨rfl, rfl⟩))
        go_wp2_with (go_at_call 29; (refine (parted_any _ _ _ (HU.out.dr (by first | exact Dr.refl _ | exact Dr.one _ _)) (by omega) (by omega)).mono ?_; rintro e w' ⟨rfl, k1, rfl⟩))
        go_wp2_with (go_at_call 30; refine (cmp_any _ _ _).mono ?_; rintro e w' ⟨rfl, rfl⟩)
        go_ret2
        exact ⟨by rw [HV.out _ HR.out]; rfl, Dr.one _ _⟩
      · have HR : Hid (cmpRes a da b db = cmpZ (wholeZ a da) (wholeZ b db)) := Lib.hid (by unfold cmpRes; rw [if_neg he])
        have hz := cmpZ_ne he
        clear he
        go_enter Tryd.func20, Tryd.ntmps20
        go_wp2_with (go_at_call 25; (refine (counts_any _ _ _).mono ?_; rintro e w' ⟨rfl, rfl⟩))
        go_wp2_with (go_at_call 29; (refine (parted_any _ _ _ (HU.out.dr (by first | exact Dr.refl _ | exact Dr.one _ _)) (by omega) (by omega)).mono ?_; rintro e w' ⟨rfl, k1, rfl⟩))
        go_wp2_with (go_at_call 30; refine (cmp_any _ _ _).mono ?_; rintro e w' ⟨rfl, rfl⟩)
        go_ret2
        exact ⟨by rw [HV.out _ HR.out]; rfl, Dr.one _ _⟩
    · have HV := Lib.hid (cmpV_f (a := a) (da := da) (fun h => h2 h.2))
      have h2 : countsB b db = false := by simpa using h2
      go_enter Tryd.func20, Tryd.ntmps20
      go_wp2_with (go_at_call 25; (refine (counts_any _ _ _).mono ?_; rintro e w' ⟨rfl, rfl⟩))
      go_ret2
      exact ⟨by rw [HV.out]; rfl, Dr.refl _⟩
  · have HV := Lib.hid (cmpV_f (b := b) (db := db) (fun h => h1 h.1))
    have h1 : countsB a da = false := by simpa using h1
    go_enter Tryd.func20, Tryd.ntmps20
    go_wp2_with (go_at_call 25; (refine (counts_any _ _ _).mono ?_; rintro e w' ⟨rfl, rfl⟩))
    go_ret2
    exact ⟨by rw [HV.out]; rfl, Dr.refl _⟩


theorem cmpRes_lt {a : Int} {da : Nat} {b : Int} {db : Nat} (h : a.tdiv (unitN da) < b.tdiv (unitN db)) : cmpRes a da b db = -1 := by
  unfold cmpRes wholeZ cmpZ; rw [if_neg (by omega), if_pos h]
theorem cmpRes_gt {a : Int} {da : Nat} {b : Int} {db : Nat} (h : b.tdiv (unitN db) < a.tdiv (unitN da)) : cmpRes a da b db = 1 := by
  unfold cmpRes wholeZ cmpZ; rw [if_neg (by omega), if_neg (by omega), if_pos h]
theorem cmpRes_eq {a : Int} {da : Nat} {b : Int} {db : Nat} (h : a.tdiv (unitN da) = b.tdiv (unitN db)) : cmpRes a da b db = cmpZ (a.tmod (unitN da) * unitN (6 - da)) (b.tmod (unitN db) * unitN (6 - db)) := by
  unfold cmpRes wholeZ restZ; rw [if_pos h]

theorem refCompare_f (a : Int) (da : Nat) (b : Int) (db : Nat) (w : World) (hf : ¬ (countsB a da = true ∧ countsB b db = true)) :
    Calls Tryd.prog 21 #[.int .i64 a, .int .u8 da, .int .i64 b, .int .u8 db] w fun e w' => e = .returned (cmpV a da b db) ∧ w = w' := by
  have HV := Lib.hid (cmpV_f hf)
  have hf2 : mayB a = false ∨ (mayB a = true ∧ mayB b = false) ∨ (mayB a = true ∧ mayB b = true ∧ 6 < da) ∨ (mayB a = true ∧ mayB b = true ∧ da ≤ 6 ∧ 6 < db) := by
    cases h1 : mayB a <;> cases h2 : mayB b <;> simp [countsB, h1, h2] at hf ⊢ <;> omega
  clear hf
  rcases hf2 with h1 | ⟨h1, h2⟩ | ⟨h1, h2, h3⟩ | ⟨h1, h2, h3, h4⟩
  all_goals
    go_enter Tryd.func21, Tryd.ntmps21
    go_wp2_with (go_at_call 15; (refine (refMay_any _ _).mono ?_; rintro e w' ⟨rfl, rfl⟩))
    go_ret2
    exact ⟨by rw [HV.out]; rfl, rfl⟩

theorem refCompare_t (a : Int) (da : Nat) (b : Int) (db : Nat) (w : World) (h1 : countsB a da = true) (h2 : countsB b db = true) :
    Calls Tryd.prog 21 #[.int .i64 a, .int .u8 da, .int .i64 b, .int .u8 db] w fun e w' => e = .returned (cmpV a da b db) ∧ Dr w w' := by
  obtain ⟨a1, a2, a3⟩ := countsB_out h1
  obtain ⟨b1, b2, b3⟩ := countsB_out h2
  have m1 : mayB a = true := by simp [mayB]; omega
  have m2 : mayB b = true := by simp [mayB]; omega
  have HV := Lib.hid (fun c => cmpV_t (c := c) h1 h2)
  obtain ⟨x1, x2, x3⟩ := parts_bounds a da ⟨a1, a2⟩ a3
  obtain ⟨y1, y2, y3⟩ := parts_bounds b db ⟨b1, b2⟩ b3
  have pa := unitN_pos a3
  have pb := unitN_pos b3
  have pa6 := unitN_pos (d := 6 - da) (by omega)
  have pb6 := unitN_pos (d := 6 - db) (by omega)
  have na : ¬ unitN da = 0 := by omega
  have nb : ¬ unitN db = 0 := by omega
  have WA1 : IntKind.i64.wrap (a.tdiv (unitN da)) = a.tdiv (unitN da) := IntWalk.i64_in _ (by omega)
  have WA2 : IntKind.i64.wrap (a.tmod (unitN da)) = a.tmod (unitN da) := IntWalk.i64_in _ (by omega)
  have WA3 : IntKind.i64.wrap (a.tmod (unitN da) * unitN (6 - da)) = a.tmod (unitN da) * unitN (6 - da) := IntWalk.i64_in _ (by unfold restZ at x3; omega)
  have WB1 : IntKind.i64.wrap (b.tdiv (unitN db)) = b.tdiv (unitN db) := IntWalk.i64_in _ (by omega)
  have WB2 : IntKind.i64.wrap (b.tmod (unitN db)) = b.tmod (unitN db) := IntWalk.i64_in _ (by omega)
  have WB3 : IntKind.i64.wrap (b.tmod (unitN db) * unitN (6 - db)) = b.tmod (unitN db) * unitN (6 - db) := IntWalk.i64_in _ (by unfold restZ at y3; omega)
  have ea : IntKind.u8.wrap (6 - (da : Int)) = ((6 - da : Nat) : Int) := by rw [IntWalk.u8_in _ (by omega)]; omega
  have eb : IntKind.u8.wrap (6 - (db : Int)) = ((6 - db : Nat) : Int) := by rw [IntWalk.u8_in _ (by omega)]; omega
  have ga : ¬ 6 < da := by omega
  have gb : ¬ 6 < db := by omega
  clear h1 h2 x1 x2 x3 y1 y2 y3
  have hcase : ∃ c, cmpRes a da b db = c ∧ ((a.tdiv (unitN da) < b.tdiv (unitN db) ∧ c = -1) ∨ (b.tdiv (unitN db) < a.tdiv (unitN da) ∧ c = 1) ∨
      (a.tdiv (unitN da) = b.tdiv (unitN db) ∧ ((a.tmod (unitN da) * unitN (6 - da) < b.tmod (unitN db) * unitN (6 - db) ∧ c = -1) ∨ (b.tmod (unitN db) * unitN (6 - db) < a.tmod (unitN da) * unitN (6 - da) ∧ c = 1) ∨ (a.tmod (unitN da) * unitN (6 - da) = b.tmod (unitN db) * unitN (6 - db) ∧ c = 0)))) := by
    refine ⟨_, rfl, ?_⟩
    by_cases e1 : a.tdiv (unitN da) < b.tdiv (unitN db)
    · exact .inl ⟨e1, cmpRes_lt e1⟩
    · by_cases e2 : b.tdiv (unitN db) < a.tdiv (unitN da)
      · exact .inr (.inl ⟨e2, cmpRes_gt e2⟩)
      · have e3 : a.tdiv (unitN da) = b.tdiv (unitN db) := by omega
        refine .inr (.inr ⟨e3, ?_⟩)
        rw [cmpRes_eq e3]
        unfold cmpZ
        generalize a.tmod (unitN da) * unitN (6 - da) = p
        generalize b.tmod (unitN db) * unitN (6 - db) = q
        by_cases f1 : p < q
        · rw [if_pos f1]; exact .inl ⟨f1, rfl⟩
        · rw [if_neg f1]
          by_cases f2 : q < p
          · rw [if_pos f2]; exact .inr (.inl ⟨f2, rfl⟩)
          · rw [if_neg f2]; exact .inr (.inr ⟨by omega, rfl⟩)
  obtain ⟨c, hc, hcase⟩ := hcase
  have HC := Lib.hid (HV.out c hc)
  clear HV hc
  rcases hcase with ⟨e1, rfl⟩ | ⟨e1, rfl⟩ | ⟨e1, ⟨e2, rfl⟩ | ⟨e2, rfl⟩ | ⟨e2, rfl⟩⟩
  all_goals
    go_enter Tryd.func21, Tryd.ntmps21
    go_wp2_with (go_at_call 15; (refine (refMay_any _ _).mono ?_; rintro e w' ⟨rfl, rfl⟩))
    go_quiet ((go_at_call 17; first | exact q1 (refUnit_any _ _ (by omega)) | exact qj (refUnit_any _ _ (by omega))))
    go_wp2
    go_quiet ((go_at_call 17; first | exact q1 (refUnit_any _ _ (by omega)) | exact qj (refUnit_any _ _ (by omega))))
    go_wp2
    go_quiet ((go_at_call 17; first | exact q1 (refUnit_any _ _ (by omega)) | exact qj (refUnit_any _ _ (by omega))))
    go_wp2
    go_ret2
    exact ⟨by rw [HC.out]; rfl, Dr.one _ _⟩
theorem refCompare_any (a : Int) (da : Nat) (b : Int) (db : Nat) (w : World) :
    Calls Tryd.prog 21 #[.int .i64 a, .int .u8 da, .int .i64 b, .int .u8 db] w fun e w' => e = .returned (cmpV a da b db) ∧ Dr w w' := by
  by_cases h : countsB a da = true ∧ countsB b db = true
  · exact refCompare_t a da b db w h.1 h.2
  · exact (refCompare_f a da b db w h).mono fun _ _ h => ⟨h.1, by rw [← h.2]; exact Dr.refl _⟩


def addV (a b : Int) : Value := if mayB a = true ∧ mayB b = true then (if mayB (a + b) = true then .tuple #[.int .i64 (a + b), .int .i64 0] else .tuple #[.int .i64 0, .int .i64 30]) else .tuple #[.int .i64 0, .int .i64 20]
theorem mayB_out {n : Int} (h : mayB n = true) : -1000000000000000 ≤ n ∧ n ≤ 1000000000000000 := by simpa [mayB] using h


theorem add_any (a b : Int) (w : World) :
    Calls Tryd.prog 22 #[.int .i64 a, .int .i64 b] w fun e w' => e = .returned (addV a b) ∧ w = w' := by
  have CM := fun n W => Lib.hid (may_any n W)
  by_cases h1 : mayB a = true
  · by_cases h2 : mayB b = true
    · have a1 := mayB_out h1
      have a2 := mayB_out h2
      by_cases h3 : mayB (a + b) = true
      · have HV : Hid (addV a b = .tuple #[.int .i64 (a + b), .int .i64 0]) := Lib.hid (by unfold addV; rw [if_pos ⟨h1, h2⟩, if_pos h3])
        go_enter Tryd.func22, Tryd.ntmps22
        go_wp2_with (go_at_call 14; refine (CM _ _).out.mono ?_; rintro e w' ⟨rfl, rfl⟩)
        go_ret2
        exact ⟨by rw [HV.out]; rfl, rfl⟩
      · have HV : Hid (addV a b = .tuple #[.int .i64 0, .int .i64 30]) := Lib.hid (by unfold addV; rw [if_pos ⟨h1, h2⟩, if_neg h3])
        have h3 : mayB (a + b) = false := by simpa using h3
        go_enter Tryd.func22, Tryd.ntmps22
        go_wp2_with (go_at_call 14; refine (CM _ _).out.mono ?_; rintro e w' ⟨rfl, rfl⟩)
        go_ret2
        exact ⟨by rw [HV.out]; rfl, rfl⟩
    · have HV : Hid (addV a b = .tuple #[.int .i64 0, .int .i64 20]) := Lib.hid (by unfold addV; rw [if_neg (fun h => h2 h.2)])
      have h2 : mayB b = false := by simpa using h2
      go_enter Tryd.func22, Tryd.ntmps22
      go_wp2_with (go_at_call 14; refine (CM _ _).out.mono ?_; rintro e w' ⟨rfl, rfl⟩)
      go_ret2
      exact ⟨by rw [HV.out]; rfl, rfl⟩
  · have HV : Hid (addV a b = .tuple #[.int .i64 0, .int .i64 20]) := Lib.hid (by unfold addV; rw [if_neg (fun h => h1 h.1)])
    have h1 : mayB a = false := by simpa using h1
    go_enter Tryd.func22, Tryd.ntmps22
    go_wp2_with (go_at_call 14; refine (CM _ _).out.mono ?_; rintro e w' ⟨rfl, rfl⟩)
    go_ret2
    exact ⟨by rw [HV.out]; rfl, rfl⟩


theorem refAdd_any (a b : Int) (w : World) :
    Calls Tryd.prog 23 #[.int .i64 a, .int .i64 b] w fun e w' => e = .returned (addV a b) ∧ w = w' := by
  have CM := fun n W => Lib.hid (refMay_any n W)
  by_cases h1 : mayB a = true
  · by_cases h2 : mayB b = true
    · have a1 := mayB_out h1
      have a2 := mayB_out h2
      by_cases h3 : mayB (a + b) = true
      · have HV : Hid (addV a b = .tuple #[.int .i64 (a + b), .int .i64 0]) := Lib.hid (by unfold addV; rw [if_pos ⟨h1, h2⟩, if_pos h3])
        go_enter Tryd.func23, Tryd.ntmps23
        go_wp2_with (go_at_call 15; refine (CM _ _).out.mono ?_; rintro e w' ⟨rfl, rfl⟩)
        go_ret2
        exact ⟨by rw [HV.out]; rfl, rfl⟩
      · have HV : Hid (addV a b = .tuple #[.int .i64 0, .int .i64 30]) := Lib.hid (by unfold addV; rw [if_pos ⟨h1, h2⟩, if_neg h3])
        have h3 : mayB (a + b) = false := by simpa using h3
        go_enter Tryd.func23, Tryd.ntmps23
        go_wp2_with (go_at_call 15; refine (CM _ _).out.mono ?_; rintro e w' ⟨rfl, rfl⟩)
        go_ret2
        exact ⟨by rw [HV.out]; rfl, rfl⟩
    · have HV : Hid (addV a b = .tuple #[.int .i64 0, .int .i64 20]) := Lib.hid (by unfold addV; rw [if_neg (fun h => h2 h.2)])
      have h2 : mayB b = false := by simpa using h2
      go_enter Tryd.func23, Tryd.ntmps23
      go_wp2_with (go_at_call 15; refine (CM _ _).out.mono ?_; rintro e w' ⟨rfl, rfl⟩)
      go_ret2
      exact ⟨by rw [HV.out]; rfl, rfl⟩
  · have HV : Hid (addV a b = .tuple #[.int .i64 0, .int .i64 20]) := Lib.hid (by unfold addV; rw [if_neg (fun h => h1 h.1)])
    have h1 : mayB a = false := by simpa using h1
    go_enter Tryd.func23, Tryd.ntmps23
    go_wp2_with (go_at_call 15; refine (CM _ _).out.mono ?_; rintro e w' ⟨rfl, rfl⟩)
    go_ret2
    exact ⟨by rw [HV.out]; rfl, rfl⟩

end Go.Proofs.YtgomfgebcljnbaaDoor
