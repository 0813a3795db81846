/-
  WALKS: New, Copy of a ring.
-/
import Derived.Test.YtecdcfmbhphagaaBProg
namespace Go.Proofs.Ytecdcfmbhphagaa.BX
open Go.RowKit HL
open IX (ptr El cellsK cellsK_at cellsK_len OwnK RdK Kept)
set_option maxRecDepth 100000
set_option linter.unusedVariables false
set_option linter.unusedSimpArgs false

def noRows : List (Int × En) := List.replicate 8 (0, zeroEn)
def rgZ : Array Value := (rgL (.pointer none) ⟨#[]⟩ 0 0 noRows).toArray
theorem rgZ_size : rgZ.size = 156 := by kernel_rfl
theorem zero_rg (W : World) : Sem.run Try.prog (zeroValue 61) W = .ok (.agg rgZ) W := by kernel_rfl
def newG (h : ByteArray) (s : Nat) : Rg := ⟨h, s, []⟩
theorem rgZ_new (B : Nat) (h : ByteArray) (s : Nat) : ((rgZ.setIfInBounds 1 (.string h)).setIfInBounds 2 (.int .i64 s)).setIfInBounds 0 (ptr B) = (rgL (ptr B) h s 0 noRows).toArray := by simp [rgZ, rgL, hdL]
/-- May there be a ring of this handle and size? -/
def newB (h : ByteArray) (s : Int) : Bool := (decide (0 < h.size) && decide (h.size ≤ 16)) && (decide (1 ≤ s) && decide (s ≤ 8))
theorem empty_f {h : ByteArray} (h0 : h ≠ ⟨#[]⟩) : h.toList.isEmpty = false := by
  rw [ByteArray.toList_eq]
  obtain ⟨⟨x⟩⟩ := h
  cases x with
  | nil => exact absurd rfl h0
  | cons a l => rfl
theorem new_no (h : ByteArray) (s : Int) (w : World) (hh : h.size ≤ 60) (hb : newB h s = false) : Calls Try.prog 10 #[.string h, .int .i64 s] w fun e w' => e = .returned (.tuple #[.pointer none, .int .i64 2]) ∧ w = w' := by
  simp only [newB, Bool.and_eq_false_iff, decide_eq_false_iff_not] at hb
  by_cases h0 : h = ⟨#[]⟩
  · subst h0
    go_enter Try.func10, Try.ntmps10
    go_wp2
    go_ret2
    exact ⟨rfl, rfl⟩
  · have hz : h.size ≠ 0 := fun e => h0 (ByteArray.size_eq_zero_iff.1 e)
    have hE : h.toList.isEmpty = false := empty_f h0
    by_cases h1 : 16 < h.size
    · go_enter Try.func10, Try.ntmps10
      go_wp2
      go_ret2
      exact ⟨rfl, rfl⟩
    · by_cases h2 : s < 1
      · go_enter Try.func10, Try.ntmps10
        go_wp2
        go_ret2
        exact ⟨rfl, rfl⟩
      · have h3 : 8 < s := by omega
        go_enter Try.func10, Try.ntmps10
        go_wp2
        go_ret2
        exact ⟨rfl, rfl⟩
set_option maxHeartbeats 2000000 in
theorem new_yes (h : ByteArray) (s : Nat) (w : World) (hb : newB h s = true) : Calls Try.prog 10 #[.string h, .int .i64 s] w fun e w' => e = .returned (.tuple #[ptr w.heap.size, .int .i64 0]) ∧ RgAt w' w.heap.size (newG h s) noRows ∧ Below w.heap.size w w' := by
  simp only [newB, Bool.and_eq_true, decide_eq_true_eq] at hb
  obtain ⟨⟨a1, a2⟩, a3, a4⟩ := hb
  have h0 : h ≠ ⟨#[]⟩ := fun e => by subst e; exact absurd a1 (by decide)
  have hE : h.toList.isEmpty = false := empty_f h0
  have i1 : ¬ 16 < h.size := by omega
  have i2 : ¬ (s : Int) < 1 := by omega
  have i3 : ¬ (8 : Int) < s := by omega
  have hz := zero_rg
  have hs := rgZ_size
  have HA := Lib.hid (show 1 ≤ s ∧ s ≤ 8 by omega)
  clear a1 a2 a3 a4
  go_enter Try.func10, Try.ntmps10
  go_wp2
  go_ret2
  have q := AtC.new w (rgL (ptr w.heap.size) h s 0 noRows).toArray 61
  rw [← rgZ_new] at q
  refine ⟨rfl, ⟨?_, by simp [noRows], HA.out.1, HA.out.2, fun n x hx => by simp [newG] at hx⟩, (Below.refl _ _).alloc (Nat.le_refl _) _⟩
  show AtC _ _ (rgL (ptr w.heap.size) h s 0 noRows).toArray
  rw [← rgZ_new]; exact q
theorem under_rg : Try.prog.underlying 61 = some (((Try.prog.underlying 61)).get!) := by kernel_rfl
theorem row_rg : (((Try.prog.underlying 61)).get!).isRow = true := by kernel_rfl
theorem size_rg : (Try.prog.info? 61).map (·.size) = some 156 := by kernel_rfl
set_option maxHeartbeats 1000000 in
theorem copy_any {B : Nat} {g : Rg} {R : List (Int × En)} (w : World) (hA : RgAt w B g R) : Calls Try.prog 12 #[ptr B] w fun e w' => e = .returned (ptr w.heap.size) ∧ RgAt w' w.heap.size g R ∧ Below w.heap.size w w' := by
  have CM := Lib.hid (made_any w hA.c0)
  have HA := Lib.hid hA
  have hz := zero_rg
  obtain ⟨C, hC⟩ : ∃ C : Array Value, (rgL (ptr B) g.h g.size g.all.length R).toArray = C := ⟨_, rfl⟩
  have hsz : C.size = 156 := by rw [← hC, List.size_toArray, rgL_len, hA.len]
  have hone : C.all (·.oneCell') = true := by rw [← hC]; exact all_oneCell_toArray (rgL_one _ rfl _ _ _ _)
  have HC := Lib.hid (show AtC w B C by rw [← hC]; exact hA.a)
  have h0 := AtC.new w rgZ 61
  have M := Lib.hid (set_at (C := C) h0 (by rw [rgZ_size, hsz]))
  have hb := set_below ((Below.refl w.heap.size w).alloc (Nat.le_refl _) (.cells rgZ 61)) (Nat.le_refl _) C
  have HT : Hid ((w.alloc (.cells rgZ 61)).there w.heap.size 0 C.size) := Lib.hid (by rw [hsz, ← rgZ_size]; exact there_at (C := rgZ) h0)
  clear hA h0
  go_enter Try.func12, Try.ntmps12
  go_upto_region 5 with ((go_at_call 27; ((with_reducible refine CM.out.mono ?_); rintro e w1 ⟨rfl, rfl⟩)))
  go_upto_region 6 with (first
    | ((show wpList _ _ _ ({ dst := some 15, op := _, type := _, pos := _, after := _, guard := _ } :: _) _ _); (refine wpList_load_mid rfl 61 (.tmp 14) rfl B 0 rfl C.toList _ (range_at HC.out) under_rg row_rg (by rw [size_rg]; simp [hsz]) ?_))
    | ((show wpList _ _ _ [{ dst := none, op := _, type := _, pos := _, after := _, guard := _ }] _ _); (refine wpList_store_mid rfl 61 (.tmp 3) (.tmp 15) rfl w.heap.size 0 C rfl rfl HT.out (by rw [size_rg, hsz]) hone ?_)))
  have hlt := M.out.lt
  have hq : C[0]? = some (ptr B) := by rw [← hC]; simp [rgL, hdL]
  have c0 := (M.out.c 0).trans hq
  have f0 := M.out.f 0
  generalize (w.alloc (.cells rgZ 61)).setCells w.heap.size 0 C.toList = w2 at *
  go_wp2
  go_ret
  have q := M.out.set (i := 0) (by omega) (ptr w.heap.size)
  rw [← hC, rg_self] at q
  exact ⟨rfl, ⟨q, HA.out.len, HA.out.s1, HA.out.s8, HA.out.rows⟩, hb.setCell (p := ⟨w.heap.size, 0, none⟩) (Nat.le_refl _) _⟩
end Go.Proofs.Ytecdcfmbhphagaa.BX
