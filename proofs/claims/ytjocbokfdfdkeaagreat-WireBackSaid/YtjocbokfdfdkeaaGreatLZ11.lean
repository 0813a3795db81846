/-
  WALKS: rows of texts, rows of changes and reports that are the same are told so.
-/
import Derived.Test.YtjocbokfdfdkeaaGreatLZLRep
import Derived.Test.YtjocbokfdfdkeaaGreatLZ6
import Derived.Test.YtjocbokfdfdkeaaGreatLZ2
import Derived.BigQuiet
import Derived.Deep.MidRow
import Derived.Deep.RegionHeld3
import Derived.Test.YtjocbokfdfdkeaaGreatLZLPutQ
import Derived.Test.YtjocbokfdfdkeaaGreatLZLPutP
namespace Go.Proofs.YtjocbokfdfdkeaaGreat.PX
open Go.RowKit HL
open IX (ptr El cellsK cellsK_at OwnK RdK strK)
open WX (obK obs_at)
open DX (Ch ch chCells chK chs_at)
set_option maxRecDepth 100000
set_option linter.unusedVariables false
set_option linter.unusedSimpArgs false

theorem sameS_yes (A1 A2 : Option Addr) (c1 c2 m : Nat) (xs : List Bs) (w : World) (h1 : RdK strK w w.heap.size A1 xs) (h2 : RdK strK w w.heap.size A2 xs) (hm : xs.length = m) (hn : m ≤ 1000000) :
    Calls Tryz.prog 44 #[.slice A1 m c1, .slice A2 m c2] w fun e w' => e = .returned (.bool true) ∧ Below w.heap.size w w' := by
  subst hm
  refine (same_any A1 A2 c1 c2 xs xs w w.heap.size h1.strs h2.strs (by unfold maxLen; omega) (by unfold maxLen; omega)).mono ?_
  rintro e w' ⟨rfl, hd⟩
  exact ⟨by rw [sameB_t rfl], hd.below _⟩
set_option maxHeartbeats 4000000 in
theorem sameC_yes (A1 A2 : Option Addr) (c1 c2 m : Nat) (l : List Ch) (w : World) (h1 : RdK chK w w.heap.size A1 l) (h2 : RdK chK w w.heap.size A2 l) (hm : l.length = m) (hn : m ≤ 1000000) :
    Calls Tryz.prog 60 #[.slice A1 m c1, .slice A2 m c2] w fun e w' => e = .returned (.bool true) ∧ Below w.heap.size w w' := by
  subst hm
  have H1 := Lib.hid h1
  have H2 := Lib.hid h2
  clear h1 h2
  go_enter Tryz.func60, Tryz.ntmps60
  go_wp2
  go_loopw [5] (fun i wr => ∃ k : Nat, i = .int .i64 k ∧ k ≤ l.length ∧ Below w.heap.size w wr) (fun i _ => l.length - (intOf i).toNat)
  case atStart => exact ⟨0, rfl, Nat.zero_le _, Below.refl _ _⟩
  case round =>
    obtain ⟨k, rfl, hk, k1⟩ := hrel
    by_cases hlt : k < l.length
    · obtain ⟨b, off, rfl, hb1, hc⟩ := chs_at (H1.out.below k1) (by omega)
      obtain ⟨b2, off2, rfl, hb2, hc2⟩ := chs_at (H2.out.below k1) (by omega)
      obtain ⟨p0, p1, p2, p3, p4, p5, p6, p7, p8, p9, p10, p11, p12, p13, p14⟩ := hc k _ (List.getElem?_eq_getElem hlt)
      obtain ⟨q0, q1, q2, q3, q4, q5, q6, q7, q8, q9, q10, q11, q12, q13, q14⟩ := hc2 k _ (List.getElem?_eq_getElem hlt)
      have i1 : (k : Int) < l.length := by omega
      have K1 := Lib.hid k1
      clear hc hc2 k1
      generalize l[k] = o at *
      go_wp2
      go_quiet (fail)
      go_wp2
      go_roundw
      case rel => exact ⟨k + 1, by go_num, by omega, K1.out.trans ⟨rfl, rfl, rfl, Nat.le_refl _, fun _ _ => rfl⟩⟩
      case measure => simp [intOf]; omega
    · obtain rfl : k = l.length := by omega
      have i1 : ¬ (l.length : Int) < l.length := by omega
      go_wp2
      go_ret
      exact ⟨rfl, k1⟩
set_option maxHeartbeats 4000000 in
theorem sameR_yes (v : Int) (g : Bool) (A1 A2 : Option Addr) (c1 c2 m : Nat) (l : List Ch) (w : World) (h1 : RdK chK w w.heap.size A1 l) (h2 : RdK chK w w.heap.size A2 l) (hm : l.length = m) (hn : m ≤ 1000000) :
    Calls Tryz.prog 25 #[rp v A1 m c1 g, rp v A2 m c2 g] w fun e w' => e = .returned (.bool true) ∧ Below w.heap.size w w' := by
  have hb := bAl (bAl (Below.refl w.heap.size w) (.cells (rpC v A1 m c1 g) 34)) (.cells (rpC v A2 m c2 g) 34)
  have m1 := (AtC.new w (rpC v A1 m c1 g) 34).al (.cells (rpC v A2 m c2 g) 34)
  have m2 := AtC.new (w.alloc (.cells (rpC v A1 m c1 g) 34)) (rpC v A2 m c2 g) 34
  have sz : (w.alloc (.cells (rpC v A1 m c1 g) 34)).heap.size = w.heap.size + 1 := by simp
  rw [sz] at m2
  clear sz
  have CS : ∀ W, Below w.heap.size w W → Calls Tryz.prog 60 #[.slice A1 m c1, .slice A2 m c2] W fun e w' => e = .returned (.bool true) ∧ Below W.heap.size W w' := fun W k => sameC_yes A1 A2 c1 c2 m l W ((h1.below k).more k.size) ((h2.below k).more k.size) hm hn
  clear h1 h2 hm hn
  go_enter Tryz.func25, Tryz.ntmps25
  go_upto_region 1 with fail
  change Code.wp _ _ _ _ ((w.alloc (.cells (rpC v A1 m c1 g) 34)).alloc (.cells (rpC v A2 m c2 g) 34))
  generalize (w.alloc (.cells (rpC v A1 m c1 g) 34)).alloc (.cells (rpC v A2 m c2 g) 34) = W0 at *
  have CS0 := Lib.hid (fun W (k : Below W0.heap.size W0 W) => CS W (bThen hb k))
  have a1 := m1.c
  have a2 := m2.c
  have l1 := m1.lt
  have l2 := m2.lt
  clear CS m1 m2
  go_wp2_with (first | (go_at_call 60; ((with_reducible refine (CS0.out _ (Below.refl _ _)).mono ?_); rintro e w3 ⟨rfl, k3⟩; have hb2 := bThen hb k3)))
  go_ret
  exact ⟨rfl, hb2⟩
end Go.Proofs.YtjocbokfdfdkeaaGreat.PX
/-
  WALKS: requests that are the same are told so.
-/
namespace Go.Proofs.YtjocbokfdfdkeaaGreat.PX
open Go.RowKit HL
open IX (ptr El cellsK cellsK_at OwnK RdK strK)
open WX (obK obs_at)
open DX (Ch ch chCells chK chs_at)
set_option maxRecDepth 100000
set_option linter.unusedVariables false
set_option linter.unusedSimpArgs false

set_option maxHeartbeats 4000000 in
theorem sameQ_yes (q : Rq) (A1 A2 : Option Addr) (c1 c2 m : Nat) (w : World) (h1 : RdK strK w w.heap.size A1 q.hs) (h2 : RdK strK w w.heap.size A2 q.hs) (hm : q.hs.length = m) (hm2 : m ≤ 1000000) :
    Calls Tryz.prog 16 #[rq q A1 m c1, rq q A2 m c2] w fun e w' => e = .returned (.bool true) ∧ Below w.heap.size w w' := by
  have hb := bAl (bAl (Below.refl w.heap.size w) (.cells (rqC q A1 m c1) 29)) (.cells (rqC q A2 m c2) 29)
  have m1 := (AtC.new w (rqC q A1 m c1) 29).al (.cells (rqC q A2 m c2) 29)
  have m2 := AtC.new (w.alloc (.cells (rqC q A1 m c1) 29)) (rqC q A2 m c2) 29
  have sz : (w.alloc (.cells (rqC q A1 m c1) 29)).heap.size = w.heap.size + 1 := by simp
  rw [sz] at m2
  clear sz
  have CE : ∀ W, Below w.heap.size w W → Calls Tryz.prog 44 #[.slice A1 m c1, .slice A2 m c2] W fun e w' => e = .returned (.bool true) ∧ Below W.heap.size W w' := fun W k => sameS_yes A1 A2 c1 c2 m q.hs W ((h1.below k).more k.size) ((h2.below k).more k.size) hm hm2
  clear h1 h2 hm hm2
  go_enter Tryz.func16, Tryz.ntmps16
  go_upto_region 1 with fail
  change Code.wp _ _ _ _ ((w.alloc (.cells (rqC q A1 m c1) 29)).alloc (.cells (rqC q A2 m c2) 29))
  generalize (w.alloc (.cells (rqC q A1 m c1) 29)).alloc (.cells (rqC q A2 m c2) 29) = W0 at *
  have CE0 := Lib.hid (CE W0 hb)
  have a1 := m1.c
  have a2 := m2.c
  have l1 := m1.lt
  have l2 := m2.lt
  have M1 := Lib.hid m1
  have M2 := Lib.hid m2
  clear CE m1 m2
  go_wp2_with (first
    | (go_at_call 44; ((with_reducible refine CE0.out.mono ?_); rintro e w3 ⟨rfl, k3⟩; have b1 := (M1.out.then k3).c; have b2 := (M2.out.then k3).c; have n1 := (M1.out.then k3).lt; have n2 := (M2.out.then k3).lt)))
  go_ret
  exact ⟨rfl, bThen hb k3⟩
end Go.Proofs.YtjocbokfdfdkeaaGreat.PX
/-
  WALKS: rows of entries that are the same are told so.
-/
namespace Go.Proofs.YtjocbokfdfdkeaaGreat.PX
open Go.RowKit HL
open IX (ptr El cellsK cellsK_at OwnK RdK)
open WX (obK obs_at)
open DX (Ch ch chCells chK chs_at)
set_option maxRecDepth 100000
set_option linter.unusedVariables false
set_option linter.unusedSimpArgs false

set_option maxHeartbeats 4000000 in
theorem eqE (W : World) (a : En) : (Op.equalIn 10000 90 (en a) (en a)).run Tryz.prog W = .ok true W := by
  go_simp
set_option maxHeartbeats 4000000 in
theorem sameE_yes (A1 A2 : Option Addr) (c1 c2 m : Nat) (l : List En) (w : World) (h1 : RdK enK w w.heap.size A1 l) (h2 : RdK enK w w.heap.size A2 l) (hm : l.length = m) (hn : m ≤ 1000000) :
    Calls Tryz.prog 47 #[.slice A1 m c1, .slice A2 m c2] w fun e w' => e = .returned (.bool true) ∧ Below w.heap.size w w' := by
  subst hm
  have H1 := Lib.hid h1
  have H2 := Lib.hid h2
  clear h1 h2
  go_enter Tryz.func47, Tryz.ntmps47
  go_wp2
  go_loopw [5] (fun i wr => ∃ k : Nat, i = .int .i64 k ∧ k ≤ l.length ∧ Below w.heap.size w wr) (fun i _ => l.length - (intOf i).toNat)
  case atStart => exact ⟨0, rfl, Nat.zero_le _, Below.refl _ _⟩
  case round =>
    obtain ⟨k, rfl, hk, k1⟩ := hrel
    by_cases hlt : k < l.length
    · obtain ⟨b, off, rfl, hb1, hc⟩ := ens_at (H1.out.below k1) (by omega)
      obtain ⟨b2, off2, rfl, hb2, hc2⟩ := ens_at (H2.out.below k1) (by omega)
      have hgk : l[k]? = some l[k] := List.getElem?_eq_getElem hlt
      have r1 : wr.rangeAt b (off + k * 18) (enC l[k]).toList := fun j v hv => by
        rcases H1.out.below k1 with h | ⟨b', off', e1, _, h3⟩
        · rw [h] at hlt; simp at hlt
        · simp at e1; obtain ⟨rfl, rfl⟩ := e1; rw [Nat.add_assoc]; exact h3 _ _ (cellsK_at enK hgk hv)
      have r2 : wr.rangeAt b2 (off2 + k * 18) (enC l[k]).toList := fun j v hv => by
        rcases H2.out.below k1 with h | ⟨b', off', e1, _, h3⟩
        · rw [h] at hlt; simp at hlt
        · simp at e1; obtain ⟨rfl, rfl⟩ := e1; rw [Nat.add_assoc]; exact h3 _ _ (cellsK_at enK hgk hv)
      have hE := fun (W : World) => eqE W l[k]
      clear hgk
      have i2 : off + k * 18 = off + k * 18 := rfl
      generalize l[k] = o at *
      have hS : (wr.drew.rangeAt b (off + k * 18) (enC o).toList ∧ wr.drew.rangeAt b2 (off2 + k * 18) (enC o).toList) ∧ Below wr.heap.size wr wr.drew := ⟨⟨r1, r2⟩, rfl, rfl, rfl, Nat.le_refl _, fun _ _ => rfl⟩
      have i1 : (k : Int) < l.length := by omega
      have K1 := Lib.hid k1
      clear hc hc2 k1 r1 r2 i2
      go_wp2
      refine wp_region_held_drew (S := fun w' => (w'.rangeAt b (off + k * 18) (enC o).toList ∧ w'.rangeAt b2 (off2 + k * 18) (enC o).toList) ∧ Below wr.heap.size wr w') (by kernel_rfl) hS (fun hHeld0 => ?_)
      refine wpAnyH_take (i := 0) (oi := { dst := some 17, op := Op.move (Operand.tmp 0), type := 31, pos := "ref.go:222", after := #[], guard := none }) (v := ?vv0) rfl (by kernel_rfl) (by kernel_rfl) (by kernel_rfl) (fun _ _ _ h => h) (Or.inl ⟨by rfl, ?hy0⟩) (by assumption) ?rest0
      case hy0 => (intro w hSw; (try dsimp only at hSw); go_simp; try with_reducible rfl)
      simp only [Act.put, List.setIfInBounds_toArray, List.set_cons_zero, List.set_cons_succ]
      refine wpAnyH_take (i := 1) (oi := { dst := some 18, op := Op.move (Operand.tmp 5), type := 3, pos := "ref.go:222", after := #[], guard := none }) (v := ?vv1) rfl (by kernel_rfl) (by kernel_rfl) (by kernel_rfl) (fun _ _ _ h => h) (Or.inl ⟨by rfl, ?hy1⟩) (by assumption) ?rest1
      case hy1 => (intro w hSw; (try dsimp only at hSw); go_simp; try with_reducible rfl)
      simp only [Act.put, List.setIfInBounds_toArray, List.set_cons_zero, List.set_cons_succ]
      refine wpAnyH_take (i := 2) (oi := { dst := some 19, op := Op.indexAddr 31 (Operand.tmp 17) (Operand.tmp 18), type := 0, pos := "ref.go:222", after := #[{ on := 0, ground := Ground.data }, { on := 1, ground := Ground.data }], guard := none }) (v := ?vv2) rfl (by kernel_rfl) (by kernel_rfl) (by kernel_rfl) (fun _ _ _ h => h) (Or.inl ⟨by rfl, ?hy2⟩) (by assumption) ?rest2
      case hy2 => (intro w hSw; (try dsimp only at hSw); go_simp; try with_reducible rfl)
      simp only [Act.put, List.setIfInBounds_toArray, List.set_cons_zero, List.set_cons_succ]
      refine wpAnyH_take (i := 3) (oi := { dst := some 20, op := Op.load 90 (Operand.tmp 19), type := 90, pos := "ref.go:222", after := #[{ on := 2, ground := Ground.data }], guard := none }) (v := en o) rfl (by kernel_rfl) (by kernel_rfl) (by kernel_rfl) (fun _ _ _ h => h) (yieldsIf_load_mid (by rfl) _ _ rfl b (off + k * 18) rfl (enC o).toList _ (fun w h => h.1.1) Tryz.underlying90 rfl (by kernel_rfl)) (by assumption) ?_
      simp only [Act.put, List.setIfInBounds_toArray, List.set_cons_zero, List.set_cons_succ]
      refine wpAnyH_take (i := 4) (oi := { dst := some 21, op := Op.move (Operand.tmp 1), type := 31, pos := "ref.go:222", after := #[], guard := none }) (v := ?vv4) rfl (by kernel_rfl) (by kernel_rfl) (by kernel_rfl) (fun _ _ _ h => h) (Or.inl ⟨by rfl, ?hy4⟩) (by assumption) ?rest4
      case hy4 => (intro w hSw; (try dsimp only at hSw); go_simp; try with_reducible rfl)
      simp only [Act.put, List.setIfInBounds_toArray, List.set_cons_zero, List.set_cons_succ]
      refine wpAnyH_take (i := 5) (oi := { dst := some 22, op := Op.move (Operand.tmp 5), type := 3, pos := "ref.go:222", after := #[], guard := none }) (v := ?vv5) rfl (by kernel_rfl) (by kernel_rfl) (by kernel_rfl) (fun _ _ _ h => h) (Or.inl ⟨by rfl, ?hy5⟩) (by assumption) ?rest5
      case hy5 => (intro w hSw; (try dsimp only at hSw); go_simp; try with_reducible rfl)
      simp only [Act.put, List.setIfInBounds_toArray, List.set_cons_zero, List.set_cons_succ]
      refine wpAnyH_take (i := 6) (oi := { dst := some 23, op := Op.indexAddr 31 (Operand.tmp 21) (Operand.tmp 22), type := 0, pos := "ref.go:222", after := #[{ on := 4, ground := Ground.data }, { on := 5, ground := Ground.data }], guard := none }) (v := ?vv6) rfl (by kernel_rfl) (by kernel_rfl) (by kernel_rfl) (fun _ _ _ h => h) (Or.inl ⟨by rfl, ?hy6⟩) (by assumption) ?rest6
      case hy6 => (intro w hSw; (try dsimp only at hSw); go_simp; try with_reducible rfl)
      simp only [Act.put, List.setIfInBounds_toArray, List.set_cons_zero, List.set_cons_succ]
      refine wpAnyH_take (i := 7) (oi := { dst := some 24, op := Op.load 90 (Operand.tmp 23), type := 90, pos := "ref.go:222", after := #[{ on := 6, ground := Ground.data }], guard := none }) (v := en o) rfl (by kernel_rfl) (by kernel_rfl) (by kernel_rfl) (fun _ _ _ h => h) (yieldsIf_load_mid (by rfl) _ _ rfl b2 (off2 + k * 18) rfl (enC o).toList _ (fun w h => h.1.2) Tryz.underlying90 rfl (by kernel_rfl)) (by assumption) ?_
      simp only [Act.put, List.setIfInBounds_toArray, List.set_cons_zero, List.set_cons_succ]
      refine wpAnyH_take (i := 8) (oi := { dst := some 25, op := Op.binOp BinOp.neq 90 (Operand.tmp 20) (Operand.tmp 24) 90, type := 4, pos := "ref.go:222", after := #[{ on := 3, ground := Ground.data }, { on := 7, ground := Ground.data }], guard := none }) (v := ?vv8) rfl (by kernel_rfl) (by kernel_rfl) (by kernel_rfl) (fun _ _ _ h => h) (Or.inl ⟨by rfl, ?hy8⟩) (by assumption) ?rest8
      case hy8 => (intro w hSw; (try dsimp only at hSw); go_simp; try with_reducible rfl)
      simp only [Act.put, List.setIfInBounds_toArray, List.set_cons_zero, List.set_cons_succ]
      refine wpAnyH_done (by kernel_rfl) ?_ _
      go_wp2
      go_roundw
      case rel => exact ⟨k + 1, by go_num, by omega, K1.out.trans ⟨rfl, rfl, rfl, Nat.le_refl _, fun _ _ => rfl⟩⟩
      case measure => simp [intOf]; omega
    · obtain rfl : k = l.length := by omega
      have i1 : ¬ (l.length : Int) < l.length := by omega
      go_wp2
      go_ret
      exact ⟨rfl, k1⟩
end Go.Proofs.YtjocbokfdfdkeaaGreat.PX
/-
  WALKS: replies that are the same are told so.
-/
namespace Go.Proofs.YtjocbokfdfdkeaaGreat.PX
open Go.RowKit HL
open IX (ptr El cellsK cellsK_at OwnK RdK strK)
open WX (obK obs_at)
open DX (Ch ch chCells chK chs_at)
set_option maxRecDepth 100000
set_option linter.unusedVariables false
set_option linter.unusedSimpArgs false

set_option maxHeartbeats 4000000 in
theorem sameY_yes (p : Rp) (A1 A2 B1 B2 : Option Addr) (c1 c2 d1 d2 m n : Nat) (w : World) (h1 : RdK enK w w.heap.size A1 p.es) (h2 : RdK enK w w.heap.size A2 p.es) (g1 : RdK chK w w.heap.size B1 p.cs) (g2 : RdK chK w w.heap.size B2 p.cs) (hm : p.es.length = m) (hn : p.cs.length = n) (hm2 : m ≤ 1000000) (hn2 : n ≤ 1000000) :
    Calls Tryz.prog 18 #[rl p A1 m c1 B1 n d1, rl p A2 m c2 B2 n d2] w fun e w' => e = .returned (.bool true) ∧ Below w.heap.size w w' := by
  have hb := bAl (bAl (Below.refl w.heap.size w) (.cells (rlC p A1 m c1 B1 n d1) 36)) (.cells (rlC p A2 m c2 B2 n d2) 36)
  have m1 := (AtC.new w (rlC p A1 m c1 B1 n d1) 36).al (.cells (rlC p A2 m c2 B2 n d2) 36)
  have m2 := AtC.new (w.alloc (.cells (rlC p A1 m c1 B1 n d1) 36)) (rlC p A2 m c2 B2 n d2) 36
  have sz : (w.alloc (.cells (rlC p A1 m c1 B1 n d1) 36)).heap.size = w.heap.size + 1 := by simp
  rw [sz] at m2
  clear sz
  have CE : ∀ W, Below w.heap.size w W → Calls Tryz.prog 47 #[.slice A1 m c1, .slice A2 m c2] W fun e w' => e = .returned (.bool true) ∧ Below W.heap.size W w' := fun W k => sameE_yes A1 A2 c1 c2 m p.es W ((h1.below k).more k.size) ((h2.below k).more k.size) hm hm2
  have CR : ∀ W, Below w.heap.size w W → Calls Tryz.prog 25 #[rp p.rver B1 n d1 p.gap, rp p.rver B2 n d2 p.gap] W fun e w' => e = .returned (.bool true) ∧ Below W.heap.size W w' := fun W k => sameR_yes p.rver p.gap B1 B2 d1 d2 n p.cs W ((g1.below k).more k.size) ((g2.below k).more k.size) hn hn2
  clear h1 h2 g1 g2 hm hn hm2 hn2
  go_enter Tryz.func18, Tryz.ntmps18
  go_upto_region 1 with fail
  change Code.wp _ _ _ _ ((w.alloc (.cells (rlC p A1 m c1 B1 n d1) 36)).alloc (.cells (rlC p A2 m c2 B2 n d2) 36))
  generalize (w.alloc (.cells (rlC p A1 m c1 B1 n d1) 36)).alloc (.cells (rlC p A2 m c2 B2 n d2) 36) = W0 at *
  have CE0 := Lib.hid (CE W0 hb)
  have CR0 := Lib.hid (fun W (k : Below W0.heap.size W0 W) => CR W (bThen hb k))
  have a1 := m1.c
  have a2 := m2.c
  have l1 := m1.lt
  have l2 := m2.lt
  have M1 := Lib.hid m1
  have M2 := Lib.hid m2
  clear CE CR m1 m2
  go_wp2_with (first
    | (go_at_call 47; ((with_reducible refine CE0.out.mono ?_); rintro e w3 ⟨rfl, k3⟩; have b1 := (M1.out.then k3).c; have b2 := (M2.out.then k3).c; have n1 := (M1.out.then k3).lt; have n2 := (M2.out.then k3).lt))
    | (go_at_call 25; ((refine (CR0.out _ k3).mono ?_); rintro e w4 ⟨rfl, k4⟩; have hb2 := bThen (bThen hb k3) k4)))
  go_ret
  exact ⟨rfl, hb2⟩
end Go.Proofs.YtjocbokfdfdkeaaGreat.PX
