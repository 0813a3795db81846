/-
  WALKS: whether a stamp may be, how two stand to each other: the program's and the document's.
-/
import Derived.Test.YtecdcfmbhphagaaUKit
namespace Go.Proofs.Ytecdcfmbhphagaa.UX
open Go.RowKit FixMath
set_option maxRecDepth 100000
set_option linter.unusedVariables false
set_option linter.unusedSimpArgs false

def cntB (n : Int) : Bool := decide (1 ≤ n ∧ n ≤ 1048576)
theorem counts_any (n : Int) (w : World) : Calls Try.prog 40 #[.int .i64 n] w fun e w' => e = .returned (.bool (cntB n)) ∧ w = w' := by
  by_cases h1 : 1 ≤ n
  · by_cases h2 : n ≤ 1048576
    · have HV := Lib.hid (show cntB n = true by simp [cntB]; omega)
      go_enter Try.func40, Try.ntmps40
      go_wp2
      go_ret
      exact ⟨by rw [HV.out]; rfl, rfl⟩
    · have HV := Lib.hid (show cntB n = false by simp [cntB]; omega)
      go_enter Try.func40, Try.ntmps40
      go_wp2
      go_ret
      exact ⟨by rw [HV.out]; rfl, rfl⟩
  · have HV := Lib.hid (show cntB n = false by simp [cntB]; omega)
    go_enter Try.func40, Try.ntmps40
    go_wp2
    go_ret
    exact ⟨by rw [HV.out]; rfl, rfl⟩
theorem mayS_zero {d s : Int} (h : eqS d s 0 0 = true) : mayS d s = true := by simp [eqS] at h; simp [mayS, h]
theorem mayS_ff {d s : Int} (h : eqS d s 0 0 = false) (k : cntB d = false) : mayS d s = false := by
  rw [mayS_f]; simp [eqS] at h; simp [cntB] at k; omega
theorem mayS_tc {d s : Int} (h : eqS d s 0 0 = false) (k : cntB d = true) : mayS d s = cntB s := by
  simp [eqS] at h; simp [cntB] at k; simp [mayS, cntB, k]; omega
theorem stMay_any (d s : Int) (w : World) : Calls Try.prog 37 #[sp d s] w fun e w' => e = .returned (.bool (mayS d s)) ∧ Below w.heap.size w w' := by
  have hb : Below w.heap.size w w := Below.refl _ _
  have C := fun n W => Lib.hid (counts_any n W)
  have hE := fun W => run_eqSt W d s 0 0
  cases h0 : eqS d s 0 0
  · cases h1 : cntB d
    · have HV := Lib.hid (mayS_ff h0 h1)
      rw [h0] at hE
      have C1 := fun W => C d W
      rw [h1] at C1
      clear C h0 h1
      go_enter Try.func37, Try.ntmps37
      go_wp2_with (go_at_call 40; ((with_reducible refine (C1 _).out.mono ?_); rintro e w' ⟨rfl, rfl⟩))
      go_ret
      exact ⟨by rw [HV.out]; rfl, bAl hb _⟩
    · have HV := Lib.hid (mayS_tc h0 h1)
      rw [h0] at hE
      have C1 := fun W => C d W
      have C2 := fun W => C s W
      rw [h1] at C1
      clear C h0 h1
      generalize cntB s = r at *
      go_enter Try.func37, Try.ntmps37
      go_wp2_with (go_at_call 40; (first | ((with_reducible refine (C1 _).out.mono ?_); rintro e w' ⟨rfl, rfl⟩) | ((with_reducible refine (C2 _).out.mono ?_); rintro e w' ⟨rfl, rfl⟩)))
      go_ret
      exact ⟨by rw [HV.out]; rfl, bAl hb _⟩
  · have HV := Lib.hid (mayS_zero h0)
    rw [h0] at hE
    clear C h0
    go_enter Try.func37, Try.ntmps37
    go_wp2
    go_ret
    exact ⟨by rw [HV.out]; rfl, bAl hb _⟩
theorem refMay15_any (d s : Int) (w : World) : Calls Try.prog 31 #[sp d s] w fun e w' => e = .returned (.bool (mayS d s)) ∧ Below w.heap.size w w' := by
  have hb : Below w.heap.size w w := Below.refl _ _
  by_cases h0 : d = 0
  · subst h0
    by_cases h1 : s = 0
    · subst h1
      have HV := Lib.hid (show mayS 0 0 = true by decide)
      go_enter Try.func31, Try.ntmps31
      go_wp2
      go_ret
      exact ⟨by rw [HV.out]; rfl, bAl hb _⟩
    · have HV := Lib.hid (show mayS 0 s = false by rw [mayS_f]; omega)
      go_enter Try.func31, Try.ntmps31
      go_wp2
      go_ret
      exact ⟨by rw [HV.out]; rfl, bAl hb _⟩
  · by_cases h1 : 1 ≤ d
    · by_cases h2 : d ≤ 1048576
      · by_cases h3 : 1 ≤ s
        · by_cases h4 : s ≤ 1048576
          · have HV := Lib.hid (show mayS d s = true by rw [mayS_iff]; omega)
            go_enter Try.func31, Try.ntmps31
            go_wp2
            go_ret
            exact ⟨by rw [HV.out]; rfl, bAl hb _⟩
          · have HV := Lib.hid (show mayS d s = false by rw [mayS_f]; omega)
            go_enter Try.func31, Try.ntmps31
            go_wp2
            go_ret
            exact ⟨by rw [HV.out]; rfl, bAl hb _⟩
        · have HV := Lib.hid (show mayS d s = false by rw [mayS_f]; omega)
          go_enter Try.func31, Try.ntmps31
          go_wp2
          go_ret
          exact ⟨by rw [HV.out]; rfl, bAl hb _⟩
      · have HV := Lib.hid (show mayS d s = false by rw [mayS_f]; omega)
        go_enter Try.func31, Try.ntmps31
        go_wp2
        go_ret
        exact ⟨by rw [HV.out]; rfl, bAl hb _⟩
    · have HV := Lib.hid (show mayS d s = false by rw [mayS_f]; omega)
      go_enter Try.func31, Try.ntmps31
      go_wp2
      go_ret
      exact ⟨by rw [HV.out]; rfl, bAl hb _⟩
theorem of_0 {a b c d : Int} (h : eqS a b c d = true) : ofS a b c d = 0 := by simp [eqS] at h; unfold ofS; rw [if_pos h]
theorem of_1 {a b c d : Int} (h : eqS a b c d = false) (k : a ≤ c) (l : b ≤ d) : ofS a b c d = 1 := by simp [eqS] at h; unfold ofS; rw [if_neg (fun q => h q.1 q.2), if_pos ⟨k, l⟩]
theorem of_2 {a b c d : Int} (h : eqS a b c d = false) (k : ¬ (a ≤ c ∧ b ≤ d)) (l : c ≤ a) (m : d ≤ b) : ofS a b c d = 2 := by simp [eqS] at h; unfold ofS; rw [if_neg (fun q => h q.1 q.2), if_neg k, if_pos ⟨l, m⟩]
theorem of_3 {a b c d : Int} (h : eqS a b c d = false) (k : ¬ (a ≤ c ∧ b ≤ d)) (l : ¬ (c ≤ a ∧ d ≤ b)) : ofS a b c d = 3 := by simp [eqS] at h; unfold ofS; rw [if_neg (fun q => h q.1 q.2), if_neg k, if_neg l]
theorem stOf_any (a b c d : Int) (w : World) : Calls Try.prog 38 #[sp a b, sp c d] w fun e w' => e = .returned (.int .u8 (ofS a b c d)) ∧ Below w.heap.size w w' := by
  have hb : Below w.heap.size w w := Below.refl _ _
  have hE := fun W => run_eqSt W a b c d
  cases h0 : eqS a b c d
  · rcases (show (a ≤ c ∧ b ≤ d) ∨ ((¬ a ≤ c ∨ (a ≤ c ∧ ¬ b ≤ d)) ∧ ((c ≤ a ∧ d ≤ b) ∨ (¬ c ≤ a ∨ (c ≤ a ∧ ¬ d ≤ b)))) by omega) with ⟨k, l⟩ | ⟨k | ⟨k, l⟩, ⟨m, n⟩ | m | ⟨m, n⟩⟩
    · have HV := Lib.hid (of_1 h0 k l)
      rw [h0] at hE; clear h0
      go_enter Try.func38, Try.ntmps38
      go_wp2
      go_ret
      exact ⟨by rw [HV.out]; rfl, bAl (bAl hb _) _⟩
    · have HV := Lib.hid (of_2 h0 (fun q => k q.1) m n)
      rw [h0] at hE; clear h0
      go_enter Try.func38, Try.ntmps38
      go_wp2
      go_ret
      exact ⟨by rw [HV.out]; rfl, bAl (bAl hb _) _⟩
    · exfalso; omega
    · have HV := Lib.hid (of_3 h0 (fun q => k q.1) (fun q => n q.2))
      rw [h0] at hE; clear h0
      go_enter Try.func38, Try.ntmps38
      go_wp2
      go_ret
      exact ⟨by rw [HV.out]; rfl, bAl (bAl hb _) _⟩
    · have HV := Lib.hid (of_2 h0 (fun q => l q.2) m n)
      rw [h0] at hE; clear h0
      go_enter Try.func38, Try.ntmps38
      go_wp2
      go_ret
      exact ⟨by rw [HV.out]; rfl, bAl (bAl hb _) _⟩
    · have HV := Lib.hid (of_3 h0 (fun q => l q.2) (fun q => m q.1))
      rw [h0] at hE; clear h0
      go_enter Try.func38, Try.ntmps38
      go_wp2
      go_ret
      exact ⟨by rw [HV.out]; rfl, bAl (bAl hb _) _⟩
    · exfalso; omega
  · have HV := Lib.hid (of_0 h0)
    rw [h0] at hE; clear h0
    go_enter Try.func38, Try.ntmps38
    go_wp2
    go_ret
    exact ⟨by rw [HV.out]; rfl, bAl (bAl hb _) _⟩
end Go.Proofs.Ytecdcfmbhphagaa.UX
