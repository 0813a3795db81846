/-
  WALKS: rows that are the same are told so.
-/
import Derived.Test.YtkgjgbenfpkekaaGreatPEn
import Derived.Test.YtkgjgbenfpkekaaGreatDEq
import Derived.BigQuiet
import Derived.Deep.MidRow
import Derived.Deep.RegionHeld3
namespace Go.Proofs.YtkgjgbenfpkekaaGreat.PX
open Go.RowKit HL
open IX (ptr El cellsK cellsK_at OwnK RdK)
open WX (obK obs_at)
open DX (Ch ch chCells chK chs_at)
set_option maxRecDepth 100000
set_option linter.unusedVariables false
set_option linter.unusedSimpArgs false

set_option maxHeartbeats 4000000 in
theorem sameO_yes (A1 A2 : Option Addr) (c1 c2 m : Nat) (l : List Ob) (w : World) (h1 : RdK obK w w.heap.size A1 l) (h2 : RdK obK w w.heap.size A2 l) (hm : l.length = m) (hn : m ≤ 1000000) :
    Calls Tryz.prog 14 #[.slice A1 m c1, .slice A2 m c2] w fun e w' => e = .returned (.bool true) ∧ Below w.heap.size w w' := by
  subst hm
  have H1 := Lib.hid h1
  have H2 := Lib.hid h2
  clear h1 h2
  go_enter Tryz.func14, Tryz.ntmps14
  go_wp2
  go_loopw [5] (fun i wr => ∃ k : Nat, i = .int .i64 k ∧ k ≤ l.length ∧ Below w.heap.size w wr) (fun i _ => l.length - (intOf i).toNat)
  case atStart => exact ⟨0, rfl, Nat.zero_le _, Below.refl _ _⟩
  case round =>
    obtain ⟨k, rfl, hk, k1⟩ := hrel
    by_cases hlt : k < l.length
    · obtain ⟨b, off, rfl, hb1, hc⟩ := obs_at (H1.out.below k1) (by omega)
      obtain ⟨b2, off2, rfl, hb2, hc2⟩ := obs_at (H2.out.below k1) (by omega)
      obtain ⟨p0, p1, p2, p3, p4, p5, p6, p7, p8, p9, p10, p11, p12, p13⟩ := hc k _ (List.getElem?_eq_getElem hlt)
      obtain ⟨q0, q1, q2, q3, q4, q5, q6, q7, q8, q9, q10, q11, q12, q13⟩ := hc2 k _ (List.getElem?_eq_getElem hlt)
      have i1 : (k : Int) < l.length := by omega
      have K1 := Lib.hid k1
      clear hc hc2 k1
      generalize l[k] = o at *
      go_wp2
      go_quiet (fail)
      go_wp2
      go_roundw
      case rel => exact ⟨k + 1, by go_num, by omega, K1.out.trans ⟨rfl, rfl, rfl, Nat.le_refl _, fun _ _ => rfl⟩⟩
      case measure => simp [intOf]; omega
    · obtain rfl : k = l.length := by omega
      have i1 : ¬ (l.length : Int) < l.length := by omega
      go_wp2
      go_ret
      exact ⟨rfl, k1⟩
set_option maxHeartbeats 4000000 in
theorem sameC_yes (A1 A2 : Option Addr) (c1 c2 m : Nat) (l : List Ch) (w : World) (h1 : RdK chK w w.heap.size A1 l) (h2 : RdK chK w w.heap.size A2 l) (hm : l.length = m) (hn : m ≤ 1000000) :
    Calls Tryz.prog 15 #[.slice A1 m c1, .slice A2 m c2] w fun e w' => e = .returned (.bool true) ∧ Below w.heap.size w w' := by
  subst hm
  have H1 := Lib.hid h1
  have H2 := Lib.hid h2
  clear h1 h2
  go_enter Tryz.func15, Tryz.ntmps15
  go_wp2
  go_loopw [5] (fun i wr => ∃ k : Nat, i = .int .i64 k ∧ k ≤ l.length ∧ Below w.heap.size w wr) (fun i _ => l.length - (intOf i).toNat)
  case atStart => exact ⟨0, rfl, Nat.zero_le _, Below.refl _ _⟩
  case round =>
    obtain ⟨k, rfl, hk, k1⟩ := hrel
    by_cases hlt : k < l.length
    · obtain ⟨b, off, rfl, hb1, hc⟩ := chs_at (H1.out.below k1) (by omega)
      obtain ⟨b2, off2, rfl, hb2, hc2⟩ := chs_at (H2.out.below k1) (by omega)
      obtain ⟨p0, p1, p2, p3, p4, p5, p6, p7, p8, p9, p10, p11, p12, p13, p14⟩ := hc k _ (List.getElem?_eq_getElem hlt)
      obtain ⟨q0, q1, q2, q3, q4, q5, q6, q7, q8, q9, q10, q11, q12, q13, q14⟩ := hc2 k _ (List.getElem?_eq_getElem hlt)
      have i1 : (k : Int) < l.length := by omega
      have K1 := Lib.hid k1
      clear hc hc2 k1
      generalize l[k] = o at *
      go_wp2
      go_quiet (fail)
      go_wp2
      go_roundw
      case rel => exact ⟨k + 1, by go_num, by omega, K1.out.trans ⟨rfl, rfl, rfl, Nat.le_refl _, fun _ _ => rfl⟩⟩
      case measure => simp [intOf]; omega
    · obtain rfl : k = l.length := by omega
      have i1 : ¬ (l.length : Int) < l.length := by omega
      go_wp2
      go_ret
      exact ⟨rfl, k1⟩
end Go.Proofs.YtkgjgbenfpkekaaGreat.PX
/-
  WALKS: rows of entries that are the same are told so.
-/
namespace Go.Proofs.YtkgjgbenfpkekaaGreat.PX
open Go.RowKit HL
open IX (ptr El cellsK cellsK_at OwnK RdK)
open WX (obK obs_at)
open DX (Ch ch chCells chK chs_at)
set_option maxRecDepth 100000
set_option linter.unusedVariables false
set_option linter.unusedSimpArgs false

set_option maxHeartbeats 4000000 in
theorem eqE (W : World) (a : En) : (Op.equalIn 10000 103 (en a) (en a)).run Tryz.prog W = .ok true W := by
  go_simp
set_option maxHeartbeats 4000000 in
theorem sameE_yes (A1 A2 : Option Addr) (c1 c2 m : Nat) (l : List En) (w : World) (h1 : RdK enK w w.heap.size A1 l) (h2 : RdK enK w w.heap.size A2 l) (hm : l.length = m) (hn : m ≤ 1000000) :
    Calls Tryz.prog 16 #[.slice A1 m c1, .slice A2 m c2] w fun e w' => e = .returned (.bool true) ∧ Below w.heap.size w w' := by
  subst hm
  have H1 := Lib.hid h1
  have H2 := Lib.hid h2
  clear h1 h2
  go_enter Tryz.func16, Tryz.ntmps16
  go_wp2
  go_loopw [5] (fun i wr => ∃ k : Nat, i = .int .i64 k ∧ k ≤ l.length ∧ Below w.heap.size w wr) (fun i _ => l.length - (intOf i).toNat)
  case atStart => exact ⟨0, rfl, Nat.zero_le _, Below.refl _ _⟩
  case round =>
    obtain ⟨k, rfl, hk, k1⟩ := hrel
    by_cases hlt : k < l.length
    · obtain ⟨b, off, rfl, hb1, hc⟩ := ens_at (H1.out.below k1) (by omega)
      obtain ⟨b2, off2, rfl, hb2, hc2⟩ := ens_at (H2.out.below k1) (by omega)
      have hgk : l[k]? = some l[k] := List.getElem?_eq_getElem hlt
      have r1 : wr.rangeAt b (off + k * 18) (enC l[k]).toList := fun j v hv => by
        rcases H1.out.below k1 with h | ⟨b', off', e1, _, h3⟩
        · rw [h] at hlt; simp at hlt
        · simp at e1; obtain ⟨rfl, rfl⟩ := e1; rw [Nat.add_assoc]; exact h3 _ _ (cellsK_at enK hgk hv)
      have r2 : wr.rangeAt b2 (off2 + k * 18) (enC l[k]).toList := fun j v hv => by
        rcases H2.out.below k1 with h | ⟨b', off', e1, _, h3⟩
        · rw [h] at hlt; simp at hlt
        · simp at e1; obtain ⟨rfl, rfl⟩ := e1; rw [Nat.add_assoc]; exact h3 _ _ (cellsK_at enK hgk hv)
      have hE := fun (W : World) => eqE W l[k]
      clear hgk
      have i2 : off + k * 18 = off + k * 18 := rfl
      generalize l[k] = o at *
      have hS : (wr.drew.rangeAt b (off + k * 18) (enC o).toList ∧ wr.drew.rangeAt b2 (off2 + k * 18) (enC o).toList) ∧ Below wr.heap.size wr wr.drew := ⟨⟨r1, r2⟩, rfl, rfl, rfl, Nat.le_refl _, fun _ _ => rfl⟩
      have i1 : (k : Int) < l.length := by omega
      have K1 := Lib.hid k1
      clear hc hc2 k1 r1 r2 i2
      go_wp2
      refine wp_region_held_drew (S := fun w' => (w'.rangeAt b (off + k * 18) (enC o).toList ∧ w'.rangeAt b2 (off2 + k * 18) (enC o).toList) ∧ Below wr.heap.size wr w') (by kernel_rfl) hS (fun hHeld0 => ?_)
      refine wpAnyH_take (i := 0) (oi := { dst := some 17, op := Op.move (Operand.tmp 0), type := 34, pos := "ref.go:222", after := #[], guard := none }) (v := ?vv0) rfl (by kernel_rfl) (by kernel_rfl) (by kernel_rfl) (fun _ _ _ h => h) (Or.inl ⟨by rfl, ?hy0⟩) (by assumption) ?rest0
      case hy0 => (intro w hSw; (try dsimp only at hSw); go_simp; try with_reducible rfl)
      simp only [Act.put, List.setIfInBounds_toArray, List.set_cons_zero, List.set_cons_succ]
      refine wpAnyH_take (i := 1) (oi := { dst := some 18, op := Op.move (Operand.tmp 5), type := 3, pos := "ref.go:222", after := #[], guard := none }) (v := ?vv1) rfl (by kernel_rfl) (by kernel_rfl) (by kernel_rfl) (fun _ _ _ h => h) (Or.inl ⟨by rfl, ?hy1⟩) (by assumption) ?rest1
      case hy1 => (intro w hSw; (try dsimp only at hSw); go_simp; try with_reducible rfl)
      simp only [Act.put, List.setIfInBounds_toArray, List.set_cons_zero, List.set_cons_succ]
      refine wpAnyH_take (i := 2) (oi := { dst := some 19, op := Op.indexAddr 34 (Operand.tmp 17) (Operand.tmp 18), type := 0, pos := "ref.go:222", after := #[{ on := 0, ground := Ground.data }, { on := 1, ground := Ground.data }], guard := none }) (v := ?vv2) rfl (by kernel_rfl) (by kernel_rfl) (by kernel_rfl) (fun _ _ _ h => h) (Or.inl ⟨by rfl, ?hy2⟩) (by assumption) ?rest2
      case hy2 => (intro w hSw; (try dsimp only at hSw); go_simp; try with_reducible rfl)
      simp only [Act.put, List.setIfInBounds_toArray, List.set_cons_zero, List.set_cons_succ]
      refine wpAnyH_take (i := 3) (oi := { dst := some 20, op := Op.load 103 (Operand.tmp 19), type := 103, pos := "ref.go:222", after := #[{ on := 2, ground := Ground.data }], guard := none }) (v := en o) rfl (by kernel_rfl) (by kernel_rfl) (by kernel_rfl) (fun _ _ _ h => h) (yieldsIf_load_mid (by rfl) _ _ rfl b (off + k * 18) rfl (enC o).toList _ (fun w h => h.1.1) Tryz.underlying103 rfl (by kernel_rfl)) (by assumption) ?_
      simp only [Act.put, List.setIfInBounds_toArray, List.set_cons_zero, List.set_cons_succ]
      refine wpAnyH_take (i := 4) (oi := { dst := some 21, op := Op.move (Operand.tmp 1), type := 34, pos := "ref.go:222", after := #[], guard := none }) (v := ?vv4) rfl (by kernel_rfl) (by kernel_rfl) (by kernel_rfl) (fun _ _ _ h => h) (Or.inl ⟨by rfl, ?hy4⟩) (by assumption) ?rest4
      case hy4 => (intro w hSw; (try dsimp only at hSw); go_simp; try with_reducible rfl)
      simp only [Act.put, List.setIfInBounds_toArray, List.set_cons_zero, List.set_cons_succ]
      refine wpAnyH_take (i := 5) (oi := { dst := some 22, op := Op.move (Operand.tmp 5), type := 3, pos := "ref.go:222", after := #[], guard := none }) (v := ?vv5) rfl (by kernel_rfl) (by kernel_rfl) (by kernel_rfl) (fun _ _ _ h => h) (Or.inl ⟨by rfl, ?hy5⟩) (by assumption) ?rest5
      case hy5 => (intro w hSw; (try dsimp only at hSw); go_simp; try with_reducible rfl)
      simp only [Act.put, List.setIfInBounds_toArray, List.set_cons_zero, List.set_cons_succ]
      refine wpAnyH_take (i := 6) (oi := { dst := some 23, op := Op.indexAddr 34 (Operand.tmp 21) (Operand.tmp 22), type := 0, pos := "ref.go:222", after := #[{ on := 4, ground := Ground.data }, { on := 5, ground := Ground.data }], guard := none }) (v := ?vv6) rfl (by kernel_rfl) (by kernel_rfl) (by kernel_rfl) (fun _ _ _ h => h) (Or.inl ⟨by rfl, ?hy6⟩) (by assumption) ?rest6
      case hy6 => (intro w hSw; (try dsimp only at hSw); go_simp; try with_reducible rfl)
      simp only [Act.put, List.setIfInBounds_toArray, List.set_cons_zero, List.set_cons_succ]
      refine wpAnyH_take (i := 7) (oi := { dst := some 24, op := Op.load 103 (Operand.tmp 23), type := 103, pos := "ref.go:222", after := #[{ on := 6, ground := Ground.data }], guard := none }) (v := en o) rfl (by kernel_rfl) (by kernel_rfl) (by kernel_rfl) (fun _ _ _ h => h) (yieldsIf_load_mid (by rfl) _ _ rfl b2 (off2 + k * 18) rfl (enC o).toList _ (fun w h => h.1.2) Tryz.underlying103 rfl (by kernel_rfl)) (by assumption) ?_
      simp only [Act.put, List.setIfInBounds_toArray, List.set_cons_zero, List.set_cons_succ]
      refine wpAnyH_take (i := 8) (oi := { dst := some 25, op := Op.binOp BinOp.neq 103 (Operand.tmp 20) (Operand.tmp 24) 103, type := 4, pos := "ref.go:222", after := #[{ on := 3, ground := Ground.data }, { on := 7, ground := Ground.data }], guard := none }) (v := ?vv8) rfl (by kernel_rfl) (by kernel_rfl) (by kernel_rfl) (fun _ _ _ h => h) (Or.inl ⟨by rfl, ?hy8⟩) (by assumption) ?rest8
      case hy8 => (intro w hSw; (try dsimp only at hSw); go_simp; try with_reducible rfl)
      simp only [Act.put, List.setIfInBounds_toArray, List.set_cons_zero, List.set_cons_succ]
      refine wpAnyH_done (by kernel_rfl) ?_ _
      go_wp2
      go_roundw
      case rel => exact ⟨k + 1, by go_num, by omega, K1.out.trans ⟨rfl, rfl, rfl, Nat.le_refl _, fun _ _ => rfl⟩⟩
      case measure => simp [intOf]; omega
    · obtain rfl : k = l.length := by omega
      have i1 : ¬ (l.length : Int) < l.length := by omega
      go_wp2
      go_ret
      exact ⟨rfl, k1⟩
end Go.Proofs.YtkgjgbenfpkekaaGreat.PX
