/-
  WALKS: the document's arena: New, Copy.
-/
import Derived.Test.YtaofhooddbkglaaARef
import Derived.Deep.RegionHeld3
import Derived.Laws.MakeOwn
namespace Go.Proofs.Ytaofhooddbkglaa
open Go.RowKit
set_option maxRecDepth 100000
set_option linter.unusedVariables false
set_option linter.unusedSimpArgs false

theorem rNew_no (n : Int) (w : World) (h : n < 1 ∨ 64 < n) : Calls Try.prog 10 #[.int .i64 n] w fun e w' => e = .returned (.tuple #[.pointer none, .int .i64 2]) ∧ w = w' := by
  rcases h with h | h
  · go_enter Try.func10, Try.ntmps10
    go_wp2
    go_ret2
    exact ⟨rfl, rfl⟩
  · have h1 : ¬ n < 1 := by omega
    go_enter Try.func10, Try.ntmps10
    go_wp2
    go_ret2
    exact ⟨rfl, rfl⟩
def mkB (n : Nat) : Array Value := Array.replicate n (.bool false)
def mkI (n : Nat) : Array Value := Array.replicate n (.int .i64 0)
theorem made_one (v : Value) (n : Nat) (hv : v.cells = #[v]) : madeCells v.cells (n * 1) = Array.replicate n v := by
  apply Array.ext
  · simp [size_madeCells]
  · intro i h1 h2
    simp [madeCells, hv, Nat.mod_one]
theorem info_bool : (Try.prog.info? 4).map (fun i => (i.zero, i.size, i.bytes)) = some (some (.bool false), 1, 1) := by kernel_rfl
theorem make_B (n : Nat) (hn : n ≤ 64) (W : World) : (Instr.makeSlice 54 (.int .i64 n) (.int .i64 n)).run Try.prog W = .ok (.slice (some ⟨W.heap.size, 0, none⟩) n n) (W.alloc (.cells (mkB n) 4)) := by
  obtain ⟨i0, hi, hz0, hz1, hz2⟩ := info_parts info_bool
  have := run_make (P := Try.prog) W 54 4 i0 (.bool false) Try.underlying54 hi hz0 .i64 .i64 n n (by omega) (Int.le_refl _) (by rw [hz2]; omega) (by omega)
  rw [hz1, Int.toNat_natCast, made_one _ _ rfl] at this
  exact this
theorem make_I (n : Nat) (hn : n ≤ 64) (W : World) : (Instr.makeSlice 40 (.int .i64 n) (.int .i64 n)).run Try.prog W = .ok (.slice (some ⟨W.heap.size, 0, none⟩) n n) (W.alloc (.cells (mkI n) 3)) := by
  obtain ⟨i0, hi, hz0, hz1, hz2⟩ := info_parts info_int
  have := run_make (P := Try.prog) W 40 3 i0 (.int .i64 0) Try.underlying40 hi hz0 .i64 .i64 n n (by omega) (Int.le_refl _) (by rw [hz2]; omega) (by omega)
  rw [hz1, Int.toNat_natCast, made_one _ _ rfl] at this
  exact this
/-- The rows and the struct, in whatever order they were made. -/
theorem rf_new {W : World} {X T G n : Nat} (hx : AtC W X (rfC T G n n n)) (ht : AtC W T (mkB n)) (hg : AtC W G (mkI n)) (h1 : X ≠ T) (h2 : X ≠ G) (h3 : T ≠ G) : RfAt W X T G n n (newS n) := by
  refine ⟨by simpa [newS] using hx, ht.lt, hg.lt, fun i hi => ?_, fun i hi => ?_, ht.f, hg.f, h1, h2, h3, by simp [newS], by simp [newS]⟩
  · simp only [newS, List.length_replicate] at hi
    rw [ht.c i]
    simp [mkB, newS, hi]
  · simp only [newS, List.length_replicate] at hi
    rw [hg.c i]
    simp [mkI, newS, hi]
set_option maxHeartbeats 1000000 in
theorem rNew_yes (n : Nat) (w : World) (h1 : 1 ≤ n) (h2 : n ≤ 64) : Calls Try.prog 10 #[.int .i64 n] w fun e w' => ∃ X T G cT cG, e = .returned (.tuple #[ptr X, .int .i64 0]) ∧ RfAt w' X T G cT cG (newS n) ∧ Below w.heap.size w w' ∧ w.heap.size ≤ X ∧ w.heap.size ≤ T ∧ w.heap.size ≤ G := by
  have i1 : ¬ (n : Int) < 1 := by omega
  have i2 : ¬ (64 : Int) < n := by omega
  have hb := make_B n h2
  have hi := make_I n h2
  go_enter Try.func10, Try.ntmps10
  go_wp2
  go_region_held3 (fun w' => True) (go_keep) (fail)
  · go_wp2
    go_ret2
    refine ⟨w.heap.size + 1 + 1, w.heap.size, w.heap.size + 1, n, n, rfl, rf_new ?_ ?_ ?_ (by omega) (by omega) (by omega), ((((Below.refl _ _).alloc (Nat.le_refl _) _).alloc (by simp) _).alloc (by simp; omega) _).drew, by omega, by omega, by omega⟩
    · exact (AtC.newAt (by simp)).drew1
    · exact (((AtC.new w (mkB n) 4).al _).al _).drew1
    · exact ((AtC.newAt (w := w.alloc (.cells (mkB n) 4)) (C := mkI n) (T := 3) (by simp)).al _).drew1
  · go_wp2
    go_ret2
    refine ⟨w.heap.size + 1 + 1, w.heap.size + 1, w.heap.size, n, n, rfl, rf_new ?_ ?_ ?_ (by omega) (by omega) (by omega), ((((Below.refl _ _).alloc (Nat.le_refl _) _).alloc (by simp) _).alloc (by simp; omega) _).drew, by omega, by omega, by omega⟩
    · exact (AtC.newAt (by simp)).drew1
    · exact ((AtC.newAt (w := w.alloc (.cells (mkI n) 3)) (C := mkB n) (T := 4) (by simp)).al _).drew1
    · exact (((AtC.new w (mkI n) 3).al _).al _).drew1
end Go.Proofs.Ytaofhooddbkglaa
