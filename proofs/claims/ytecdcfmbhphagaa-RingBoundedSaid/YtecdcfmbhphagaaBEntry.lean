/-
  WALK: the law's entry; what Put makes of such ones.
-/
import Derived.Test.YtecdcfmbhphagaaBPut2
namespace Go.Proofs.Ytecdcfmbhphagaa.BX
open Go.RowKit HL
open UX (mayS ofS mayS_iff ofS_ahead)
open IX (ptr El cellsK cellsK_at cellsK_len OwnK RdK Kept)
set_option maxRecDepth 100000
set_option linter.unusedVariables false
set_option linter.unusedSimpArgs false

/-- One that is there, of a number. -/
def entE (h : ByteArray) (n : Int) : En := ⟨h, true, ⟨h, 0, ⟨#[]⟩, 0, ⟨#[]⟩, 0, 0, 0, false, false, n, 0, 0, 0⟩, 1, n⟩
theorem entry_any (h : ByteArray) (n : Int) (w : World) : Calls Try.prog 26 #[.string h, .int .i64 n] w fun e w' => e = .returned (en (entE h n)) ∧ Below w.heap.size w w' := by
  have hb := bAl (Below.refl w.heap.size w) (.cells (enC zeroEn) 35)
  have M := en_new w
  have zt : (w.alloc (.cells (enC zeroEn) 35)).there w.heap.size 0 (enC (entE h n)).size := there_at (C := enC zeroEn) M
  have zall := en_one (entE h n)
  go_enter Try.func26, Try.ntmps26
  go_upto_region 1 with fail
  change Code.wp _ _ _ _ (w.alloc (.cells (enC zeroEn) 35))
  generalize w.alloc (.cells (enC zeroEn) 35) = W at *
  go_wp2_with ((show wpList _ _ _ ({ dst := none, op := _, type := _, pos := _, after := _, guard := _ } :: _) _ _); (refine wpList_store_mid rfl _ _ _ rfl w.heap.size 0 (enC (entE h n)) rfl rfl zt (by kernel_rfl) zall ?_))
  exact ret_row (C := enC (entE h n)) (B := w.heap.size) rfl rfl rfl (set_at M rfl) (by kernel_rfl) (by kernel_rfl) ⟨rfl, set_below hb (Nat.le_refl _) _⟩
theorem own_ent (h : ByteArray) (n : Int) : ownB h (entE h n) = true := by simp [ownB, entE]
theorem own_ent_no {h k : ByteArray} (hk : k ≠ h) (n : Int) : ownB h (entE k n) = false := by simp [ownB, entE, tl_ne hk]
theorem may1 (n : Int) : mayS 1 n = decide (1 ≤ n ∧ n ≤ 1048576) := by
  rw [Bool.eq_iff_iff, mayS_iff, decide_eq_true_eq]; omega
/-- The first one. -/
theorem put_first (h : ByteArray) (s : Nat) {v n : Int} (hv : 0 ≤ v ∧ v ≤ 1048576) (hn : n ≤ 1048576) : putB ⟨h, s, []⟩ v (entE h n) = decide (0 < n) := by
  have e1 : followsB ⟨h, s, []⟩ v = true := by simp [followsB, isL, hv]
  rw [put_parts, e1, own_ent]
  rw [Bool.eq_iff_iff]
  simp only [lastE, List.getLast?_nil, Option.map_none, Option.getD_none, neverE, entE, Bool.true_and, Bool.and_eq_true, decide_eq_true_eq, mayS_iff, ofS_ahead]
  omega
/-- A further one. -/
theorem put_more (h : ByteArray) (s : Nat) (l : List (Int × En)) {v v0 n n0 : Int} (hv : 0 ≤ v ∧ v ≤ 1048576) (h0 : v0 < v) (hn : n ≤ 1048576) (hn0 : 0 < n0) : putB ⟨h, s, l ++ [(v0, entE h n0)]⟩ v (entE h n) = decide (n0 < n) := by
  have e1 : followsB ⟨h, s, l ++ [(v0, entE h n0)]⟩ v = true := by simp [followsB, isL, lastV, hv, h0]
  have e2 : lastE ⟨h, s, l ++ [(v0, entE h n0)]⟩ = entE h n0 := (last_snoc (g := ⟨h, s, l ++ [(v0, entE h n0)]⟩) rfl).2.1
  rw [put_parts, e1, own_ent, e2]
  rw [Bool.eq_iff_iff]
  simp only [entE, Bool.true_and, Bool.and_eq_true, decide_eq_true_eq, mayS_iff, ofS_ahead, true_and]
  omega
theorem put_again (h : ByteArray) (s : Nat) (l : List (Int × En)) {v v0 : Int} (e e0 : En) (h0 : v ≤ v0) : putB ⟨h, s, l ++ [(v0, e0)]⟩ v e = false := by
  have e1 : followsB ⟨h, s, l ++ [(v0, e0)]⟩ v = false := by simp [followsB, isL, lastV, h0]
  rw [put_parts, e1]; rfl
theorem put_other {h k : ByteArray} (hk : k ≠ h) (s : Nat) (l : List (Int × En)) (v n : Int) : putB ⟨h, s, l⟩ v (entE k n) = false := by
  rw [put_parts, own_ent_no hk]; simp
/-! ## the chapter's example -/
abbrev hA1 : ByteArray := ⟨#[97]⟩
def gA0 : Rg := ⟨hA1, 2, []⟩
def gA1 : Rg := ⟨hA1, 2, [] ++ [(1, entE hA1 1)]⟩
def gA2 : Rg := ⟨hA1, 2, ([] ++ [(1, entE hA1 1)]) ++ [(4, entE hA1 2)]⟩
def gA3 : Rg := ⟨hA1, 2, (([] ++ [(1, entE hA1 1)]) ++ [(4, entE hA1 2)]) ++ [(6, entE hA1 3)]⟩
theorem ex1 : putE gA0 1 (entE hA1 1) = 0 ∧ putG gA0 1 (entE hA1 1) = gA1 := put_yes (by unfold gA0; rw [put_first _ _ (by omega) (by omega)]; decide)
theorem ex2 : putE gA1 1 (entE hA1 2) = 2 ∧ putG gA1 1 (entE hA1 2) = gA1 := put_no (by unfold gA1; exact put_again _ _ _ _ _ (by omega))
theorem ex3 : putE gA1 4 (entE hA1 2) = 0 ∧ putG gA1 4 (entE hA1 2) = gA2 := put_yes (by unfold gA1; rw [put_more _ _ _ (by omega) (by omega) (by omega) (by omega)]; decide)
theorem ex4 : putE gA2 6 (entE hA1 3) = 0 ∧ putG gA2 6 (entE hA1 3) = gA3 := put_yes (by unfold gA2; rw [put_more _ _ _ (by omega) (by omega) (by omega) (by omega)]; decide)
theorem at1 : atR gA2 3 = (entE hA1 1, 0) := by simp [atR, kept, gA2]
theorem at2 : atR gA2 0 = (neverE hA1, 0) := by simp [atR, kept, gA2]
theorem at3 : atR gA3 3 = (zeroEn, 160) := by simp [atR, kept, gA3]
theorem at4 : atR gA3 5 = (entE hA1 2, 0) := by simp [atR, kept, gA3]
theorem at5 : atR gA3 99 = (entE hA1 3, 0) := by simp [atR, kept, gA3]
theorem many5 : (kept gA3).length = 2 := by simp [kept, gA3]
theorem drop5 : dropN gA3 = 1 := by simp [dropN, gA3]
end Go.Proofs.Ytecdcfmbhphagaa.BX
