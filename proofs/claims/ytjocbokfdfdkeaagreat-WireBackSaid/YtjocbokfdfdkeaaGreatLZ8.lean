/-
  WALKS: a Request written: write, Request.
-/
import Derived.Test.YtjocbokfdfdkeaaGreatLZLPutQ
import Derived.Test.YtjocbokfdfdkeaaGreatLZ5
import Derived.Test.YtjocbokfdfdkeaaGreatLZ6
import Derived.Deep.RegionHeld3
import Derived.Test.YtjocbokfdfdkeaaGreatLZLPutP
namespace Go.Proofs.YtjocbokfdfdkeaaGreat.PX
open Go.RowKit HL
open IX (ptr El cellsK cellsK_at cellsK_len OwnK RdK Kept strK)
open YX (numB rdU rdB rdT rdS rdI addW intN natI rest told WAt WPt Wr RAt vS vU vI u8K Got)
open DX (Ch ch chCells chK)
set_option maxRecDepth 100000
set_option linter.unusedVariables false
set_option linter.unusedSimpArgs false

def reqB (q : Rq) : Option Bs := if 64 < q.hs.length then none else reqW (some []) q
set_option maxHeartbeats 8000000 in
theorem writeQ_any (q : Rq) (A : Option Addr) (c : Nat) (hF : FineQ q) (p2 : Nat) (w : World) (h : RdK strK w w.heap.size A q.hs) :
    Calls Tryz.prog 30 #[fm 64 p2, rq q A q.hs.length c] w fun e w' => Bts w (reqW (some []) q) e w' := by
  have hz := YX.zero_wr
  have b1 := bAl (bAl (Below.refl w.heap.size w) (.cells #[fn 64, fn p2] 74)) (.cells (rqC q A q.hs.length c) 29)
  have m1 := (AtC.new w #[fn 64, fn p2] 74).al (.cells (rqC q A q.hs.length c) 29)
  have m2 : AtC ((w.alloc (.cells #[fn 64, fn p2] 74)).alloc (.cells (rqC q A q.hs.length c) 29)) (w.heap.size + 1) (rqC q A q.hs.length c) := AtC.newAt (by simp)
  have B1 := Lib.hid b1
  have hent := enters_of Tryz.func64 (by kernel_rfl) rfl
  have CP := Lib.hid (fun (Bw : Nat) (W : World) (q0 : WAt W Bw (some [])) (r0 : RdK strK W W.heap.size A q.hs) (hne0 : ∀ a, A = some a → q.hs ≠ [] → a.block ≠ Bw) => putRequest_any Bw (some []) q A c W hF q0 r0 hne0)
  have CY := Lib.hid (fun W B r (q0 : WAt W B r) => bytes_any B r W q0)
  have H0 := Lib.hid h
  have HAb0 : Hid (∀ a, A = some a → q.hs ≠ [] → a.block < w.heap.size) := Lib.hid (fun a e hl => by
    rcases h with q0 | ⟨b, off, e2, hb, _⟩
    · exact absurd q0 hl
    · rw [e] at e2; cases e2; exact hb)
  have M1 := Lib.hid m1
  have M2 := Lib.hid m2
  clear hF h m1 m2
  generalize reqW (some []) q = s at *
  go_enter Tryz.func30, Tryz.ntmps30
  go_upto_region 1 with fail
  change Code.wp _ _ _ _ ((w.alloc (.cells #[fn 64, fn p2] 74)).alloc (.cells (rqC q A q.hs.length c) 29))
  have hs1 : ((w.alloc (.cells #[fn 64, fn p2] 74)).alloc (.cells (rqC q A q.hs.length c) 29)).heap.size = w.heap.size + 1 + 1 := by simp
  generalize ((w.alloc (.cells #[fn 64, fn p2] 74)).alloc (.cells (rqC q A q.hs.length c) 29)) = W1 at *
  have HW0 : Hid (WAt (W1.alloc (.cells YX.zW 118)) W1.heap.size (some [])) := Lib.hid ⟨[], YX.p0, 0, YX.p0_len, by omega, by simp, by simp, YX.AtH.new _ _ _⟩
  have b2 := bAl (Below.refl W1.heap.size W1) (.cells YX.zW 118)
  have B2 := Lib.hid (bAl B1.out (.cells YX.zW 118))
  have HR0 := Lib.hid ((H0.out.below B2.out).more B2.out.size)
  have CP2 := Lib.hid (CP.out W1.heap.size _ HW0.out HR0.out (fun a e hl => by have := HAb0.out a e hl; omega))
  have HM1 := Lib.hid (M1.out.al (.cells YX.zW 118))
  have HM2 := Lib.hid (M2.out.al (.cells YX.zW 118))
  have hle : w.heap.size ≤ W1.heap.size := by omega
  clear b1 b2 M1 M2 CP HAb0 hs1
  generalize q.hs.length = n at *
  go_upto_region 2 with fail
  change Code.wp _ _ _ _ (W1.alloc (.cells YX.zW 118))
  generalize (W1.alloc (.cells YX.zW 118)) = W2 at *
  have x1 := HM1.out.c 0
  have x1l := HM1.out.lt
  have hc : W2.rangeAt (w.heap.size + 1) 0 (rqC q A n c : Array Value).toList := fun j v hv => by
    rw [Nat.zero_add, HM2.out.c j, ← hv]; exact Array.getElem?_toList.symm
  go_wp2_with (first
    | (go_at_call 66; ((refine (CY.out _ _ _ HW3.out).mono ?_); rintro e w6 ⟨v6, n6, rfl, b6, k6⟩; have B6 := Lib.hid b6; have K6 := Lib.hid (bThen K3.out k6); clear b6 k6))
    | ((show wpList _ _ _ ({ dst := some 9, .. } :: _) _ _); (refine wpList_load_mid rfl _ _ rfl (w.heap.size + 1) 0 rfl (rqC q A n c : Array Value).toList _ hc Tryz.underlying29 rfl (by kernel_rfl) ?_))
    | ((refine CP2.out.mono ?_); rintro e w3 ⟨rfl, r3, k3⟩; have HW3 := Lib.hid r3; have K3 := Lib.hid ((Kept.trans (P := (· ≠ W1.heap.size)) (.of_below B2.out) k3).below (Nat.le_refl _) (fun j hj => show j ≠ W1.heap.size by omega)); clear r3 k3))
  go_ret2
  exact ⟨v6, n6, rfl, B6.out, K6.out⟩
end Go.Proofs.YtjocbokfdfdkeaaGreat.PX
/-
  WALK: Request.
-/
namespace Go.Proofs.YtjocbokfdfdkeaaGreat.PX
open Go.RowKit HL
open IX (ptr El cellsK cellsK_at cellsK_len OwnK RdK Kept strK)
open YX (numB rdU rdB rdT rdS rdI addW intN natI rest told WAt WPt Wr RAt vS vU vI u8K Got)
open DX (Ch ch chCells chK)
set_option maxRecDepth 100000
set_option linter.unusedVariables false
set_option linter.unusedSimpArgs false

theorem requests_any (w : World) : Calls Tryz.prog 29 #[] w fun e w' => e = .returned (fm 64 65) ∧ Below w.heap.size w w' := by
  go_enter Tryz.func29, Tryz.ntmps29
  go_wp2
  refine ret_row (C := #[fn 64, fn 65]) (B := w.heap.size) rfl rfl rfl (AtC.new _ _ _) (by kernel_rfl) (by kernel_rfl) ⟨rfl, bAl (Below.refl _ _) _⟩
set_option maxHeartbeats 8000000 in
theorem request_any (q : Rq) (A : Option Addr) (c : Nat) (hF : FineQ q) (w : World) (h : RdK strK w w.heap.size A q.hs) :
    Calls Tryz.prog 9 #[rq q A q.hs.length c] w fun e w' => Bts w (reqB q) e w' := by
  have b0 := bAl (Below.refl w.heap.size w) (.cells (rqC q A q.hs.length c) 29)
  have m0 := AtC.new w (rqC q A q.hs.length c) 29
  have B0 := Lib.hid b0
  by_cases h64 : 64 < q.hs.length
  ·
    have i1 : (64 : Int) < (q.hs.length : Int) := by omega
    have e : reqB q = none := by unfold reqB; rw [if_pos h64]
    have mc := m0.c
    rw [e]
    clear h hF e m0 b0
    clear h64
    generalize q.hs.length = n at *
    go_enter Tryz.func9, Tryz.ntmps9
    go_wp2
    go_ret2
    exact ⟨_, 3, rfl, .no', B0.out⟩
  ·
    have i1 : ¬ (64 : Int) < (q.hs.length : Int) := by omega
    have e : reqB q = reqW (some []) q := by unfold reqB; rw [if_neg h64]
    have H0 := Lib.hid h
    have CW := Lib.hid (fun W (r0 : RdK strK W W.heap.size A q.hs) => writeQ_any q A c hF 65 W r0)
    have CC := Lib.hid requests_any
    rw [e]
    clear h hF e
    generalize reqW (some []) q = s at *
    clear h64
    generalize q.hs.length = n at *
    go_enter Tryz.func9, Tryz.ntmps9
    go_upto_region 1 with fail
    change Code.wp _ _ _ _ (w.alloc (.cells (rqC q A n c) 29))
    have HR0 := Lib.hid ((H0.out.below b0).more b0.size)
    clear b0
    generalize w.alloc (.cells (rqC q A n c) 29) = W0 at *
    have mc := m0.c
    have ml := m0.lt
    go_upto_region 3 with fail
    have hP : ∀ w', Below W0.heap.size W0 w' → ∀ i, w'.cell? ⟨w.heap.size, i, none⟩ = (rqC q A n c)[i]? := fun w' k => (m0.then k).c
    have hb1 : Below W0.heap.size W0 W0 := Below.refl _ _
    have hb2 : Below W0.heap.size W0 W0.drew := bD1L W0
    clear mc m0
    have hcr : ∀ w', Below W0.heap.size W0 w' → w'.rangeAt w.heap.size 0 (rqC q A n c : Array Value).toList := fun w' k j v hv => by
      rw [Nat.zero_add, hP w' k j, ← hv]; exact Array.getElem?_toList.symm
    clear hP
    refine wp_region_held_drew (S := fun w' => w'.rangeAt w.heap.size 0 (rqC q A n c : Array Value).toList ∧ Below W0.heap.size W0 w') (by kernel_rfl) ⟨hcr _ hb2, hb2⟩ (fun hHeld0 => ?_)
    refine wpAnyH_take (i := 1) (oi := { dst := some 9, op := Op.load 29 (Operand.tmp 1), type := 29, pos := "wire.go:165", after := #[], guard := none }) (v := .agg (rqC q A n c)) rfl (by kernel_rfl) (by kernel_rfl) (by kernel_rfl) (fun _ _ _ h => h) (yieldsIf_load_mid (by rfl) _ _ rfl w.heap.size 0 rfl (rqC q A n c : Array Value).toList _ (fun w h => h.1) Tryz.underlying29 rfl (by kernel_rfl)) (by assumption) ?_
    simp only [Act.put, List.setIfInBounds_toArray, List.set_cons_zero, List.set_cons_succ]
    refine wpAnyH_ready (rs := [0]) (by kernel_rfl) (by simp) ?_
    refine AllReadyH.cons (o := { dst := some 8, op := Op.call { callee := Callee.value (Operand.func 29), args := #[], argTypes := #[] }, type := 74, pos := "wire.go:165", after := #[], guard := none }) rfl (fun K hK => ?_) AllReadyH.nil
    go_simp
    (with_reducible refine (CC.out _).mono ?_)
    rintro e w3 ⟨rfl, k3⟩
    go_wp2_with fail
    refine hK.out _ _ ⟨hcr _ (keepD hHeld0 k3), keepD hHeld0 k3⟩ (fun hHeld1 => ?_)
    clear hK K hHeld0
    try simp only [Act.put, List.setIfInBounds_toArray, List.set_cons_zero, List.set_cons_succ]
    refine wpAnyH_ready (rs := [2]) (by kernel_rfl) (by simp) ?_
    refine AllReadyH.cons (o := { dst := some 10, op := Op.call { callee := Callee.value (Operand.func 30), args := #[Operand.tmp 8, Operand.tmp 9], argTypes := #[74, 29] }, type := 40, pos := "wire.go:165", after := #[{ on := 0, ground := Ground.data }, { on := 1, ground := Ground.data }, { on := 0, ground := Ground.chain }], guard := none }) rfl (fun K hK => ?_) AllReadyH.nil
    go_simp
    refine (CW.out _ ((HR0.out.below hHeld1.2).more hHeld1.2.size)).mono ?_
    rintro e w4 ⟨v4, n4, rfl, r4, k3⟩
    have R4 := Lib.hid r4
    have K4 := Lib.hid (bThen hHeld1.2 k3)
    clear r4
    go_wp2_with fail
    refine hK.out _ _ ⟨hcr _ (keepD hHeld1 k3), keepD hHeld1 k3⟩ (fun hHeld2 => ?_)
    clear hK K hHeld1
    try simp only [Act.put, List.setIfInBounds_toArray, List.set_cons_zero, List.set_cons_succ]
    refine wpAnyH_take (i := 3) (oi := { dst := some 11, op := Op.extract (Operand.tmp 10) 0, type := 39, pos := "wire.go:165", after := #[{ on := 2, ground := Ground.data }], guard := none }) (v := ?vv3) rfl (by kernel_rfl) (by kernel_rfl) (by kernel_rfl) (fun _ _ _ h => h) (Or.inl ⟨by rfl, ?hy3⟩) (by assumption) ?rest3
    case hy3 => (intro w hSw; (try dsimp only at hSw); go_simp; try with_reducible rfl)
    simp only [Act.put, List.setIfInBounds_toArray, List.set_cons_zero, List.set_cons_succ]
    refine wpAnyH_take (i := 4) (oi := { dst := some 12, op := Op.extract (Operand.tmp 10) 1, type := 30, pos := "wire.go:165", after := #[{ on := 2, ground := Ground.data }], guard := none }) (v := ?vv4) rfl (by kernel_rfl) (by kernel_rfl) (by kernel_rfl) (fun _ _ _ h => h) (Or.inl ⟨by rfl, ?hy4⟩) (by assumption) ?rest4
    case hy4 => (intro w hSw; (try dsimp only at hSw); go_simp; try with_reducible rfl)
    simp only [Act.put, List.setIfInBounds_toArray, List.set_cons_zero, List.set_cons_succ]
    refine wpAnyH_take (i := 5) (oi := { dst := some 2, op := Op.assign (Operand.tmp 11), type := 39, pos := "wire.go:165", after := #[{ on := 3, ground := Ground.data }, { on := 2, ground := Ground.chain }, { on := 0, ground := Ground.phase }, { on := 1, ground := Ground.phase }, { on := 2, ground := Ground.phase }, { on := 3, ground := Ground.phase }, { on := 4, ground := Ground.phase }], guard := none }) (v := ?vv5) rfl (by kernel_rfl) (by kernel_rfl) (by kernel_rfl) (fun _ _ _ h => h) (Or.inl ⟨by rfl, ?hy5⟩) (by assumption) ?rest5
    case hy5 => (intro w hSw; (try dsimp only at hSw); go_simp; try with_reducible rfl)
    simp only [Act.put, List.setIfInBounds_toArray, List.set_cons_zero, List.set_cons_succ]
    refine wpAnyH_take (i := 6) (oi := { dst := some 3, op := Op.assign (Operand.tmp 12), type := 30, pos := "wire.go:165", after := #[{ on := 4, ground := Ground.data }, { on := 5, ground := Ground.chain }, { on := 0, ground := Ground.phase }, { on := 1, ground := Ground.phase }, { on := 2, ground := Ground.phase }, { on := 3, ground := Ground.phase }, { on := 4, ground := Ground.phase }, { on := 5, ground := Ground.phase }], guard := none }) (v := ?vv6) rfl (by kernel_rfl) (by kernel_rfl) (by kernel_rfl) (fun _ _ _ h => h) (Or.inl ⟨by rfl, ?hy6⟩) (by assumption) ?rest6
    case hy6 => (intro w hSw; (try dsimp only at hSw); go_simp; try with_reducible rfl)
    simp only [Act.put, List.setIfInBounds_toArray, List.set_cons_zero, List.set_cons_succ]
    refine wpAnyH_done (by kernel_rfl) ?_ _
    go_wp2
    go_ret2
    exact ⟨v4, n4, rfl, R4.out, bThen B0.out K4.out⟩
end Go.Proofs.YtjocbokfdfdkeaaGreat.PX
/-
  WALKS: a Reply written: write, Reply.
-/
namespace Go.Proofs.YtjocbokfdfdkeaaGreat.PX
open Go.RowKit HL
open IX (ptr El cellsK cellsK_at cellsK_len OwnK RdK Kept strK)
open YX (numB rdU rdB rdT rdS rdI addW intN natI rest told WAt WPt Wr RAt vS vU vI u8K Got)
open DX (Ch ch chCells chK)
set_option maxRecDepth 100000
set_option linter.unusedVariables false
set_option linter.unusedSimpArgs false

def rplB (p : Rp) : Option Bs := if 64 < p.es.length ∨ 64 < p.cs.length then none else rplW (some []) p
set_option maxHeartbeats 8000000 in
theorem writeY_any (p : Rp) (A : Option Addr) (c : Nat) (A2 : Option Addr) (c2 : Nat) (hF : FineP p) (p2 : Nat) (w : World) (h : RdK enK w w.heap.size A p.es) (h2 : RdK chK w w.heap.size A2 p.cs) :
    Calls Tryz.prog 39 #[fm 68 p2, rl p A p.es.length c A2 p.cs.length c2] w fun e w' => Bts w (rplW (some []) p) e w' := by
  have hz := YX.zero_wr
  have b1 := bAl (bAl (Below.refl w.heap.size w) (.cells #[fn 68, fn p2] 85)) (.cells (rlC p A p.es.length c A2 p.cs.length c2) 36)
  have m1 := (AtC.new w #[fn 68, fn p2] 85).al (.cells (rlC p A p.es.length c A2 p.cs.length c2) 36)
  have m2 : AtC ((w.alloc (.cells #[fn 68, fn p2] 85)).alloc (.cells (rlC p A p.es.length c A2 p.cs.length c2) 36)) (w.heap.size + 1) (rlC p A p.es.length c A2 p.cs.length c2) := AtC.newAt (by simp)
  have B1 := Lib.hid b1
  have hent := enters_of Tryz.func68 (by kernel_rfl) rfl
  have CP := Lib.hid (fun (Bw : Nat) (W : World) (q0 : WAt W Bw (some [])) (r0 : RdK enK W W.heap.size A p.es) (hne0 : ∀ a, A = some a → p.es ≠ [] → a.block ≠ Bw) (r1 : RdK chK W W.heap.size A2 p.cs) (hne1 : ∀ a, A2 = some a → p.cs ≠ [] → a.block ≠ Bw) => putReply_any Bw (some []) p A c A2 c2 W hF q0 r0 hne0 r1 hne1)
  have CY := Lib.hid (fun W B r (q0 : WAt W B r) => bytes_any B r W q0)
  have H0 := Lib.hid h
  have HAb0 : Hid (∀ a, A = some a → p.es ≠ [] → a.block < w.heap.size) := Lib.hid (fun a e hl => by
    rcases h with q0 | ⟨b, off, e2, hb, _⟩
    · exact absurd q0 hl
    · rw [e] at e2; cases e2; exact hb)
  have H1 := Lib.hid h2
  have HAb1 : Hid (∀ a, A2 = some a → p.cs ≠ [] → a.block < w.heap.size) := Lib.hid (fun a e hl => by
    rcases h2 with q0 | ⟨b, off, e2, hb, _⟩
    · exact absurd q0 hl
    · rw [e] at e2; cases e2; exact hb)
  have M1 := Lib.hid m1
  have M2 := Lib.hid m2
  clear hF h h2 m1 m2
  generalize rplW (some []) p = s at *
  go_enter Tryz.func39, Tryz.ntmps39
  go_upto_region 1 with fail
  change Code.wp _ _ _ _ ((w.alloc (.cells #[fn 68, fn p2] 85)).alloc (.cells (rlC p A p.es.length c A2 p.cs.length c2) 36))
  have hs1 : ((w.alloc (.cells #[fn 68, fn p2] 85)).alloc (.cells (rlC p A p.es.length c A2 p.cs.length c2) 36)).heap.size = w.heap.size + 1 + 1 := by simp
  generalize ((w.alloc (.cells #[fn 68, fn p2] 85)).alloc (.cells (rlC p A p.es.length c A2 p.cs.length c2) 36)) = W1 at *
  have HW0 : Hid (WAt (W1.alloc (.cells YX.zW 118)) W1.heap.size (some [])) := Lib.hid ⟨[], YX.p0, 0, YX.p0_len, by omega, by simp, by simp, YX.AtH.new _ _ _⟩
  have b2 := bAl (Below.refl W1.heap.size W1) (.cells YX.zW 118)
  have B2 := Lib.hid (bAl B1.out (.cells YX.zW 118))
  have HR0 := Lib.hid ((H0.out.below B2.out).more B2.out.size)
  have HR1 := Lib.hid ((H1.out.below B2.out).more B2.out.size)
  have CP2 := Lib.hid (CP.out W1.heap.size _ HW0.out HR0.out (fun a e hl => by have := HAb0.out a e hl; omega) HR1.out (fun a e hl => by have := HAb1.out a e hl; omega))
  have HM1 := Lib.hid (M1.out.al (.cells YX.zW 118))
  have HM2 := Lib.hid (M2.out.al (.cells YX.zW 118))
  have hle : w.heap.size ≤ W1.heap.size := by omega
  clear b1 b2 M1 M2 CP HAb0 HAb1 hs1
  generalize p.es.length = n at *
  generalize p.cs.length = n2 at *
  go_upto_region 2 with fail
  change Code.wp _ _ _ _ (W1.alloc (.cells YX.zW 118))
  generalize (W1.alloc (.cells YX.zW 118)) = W2 at *
  have x1 := HM1.out.c 0
  have x1l := HM1.out.lt
  have hc : W2.rangeAt (w.heap.size + 1) 0 (rlC p A n c A2 n2 c2 : Array Value).toList := fun j v hv => by
    rw [Nat.zero_add, HM2.out.c j, ← hv]; exact Array.getElem?_toList.symm
  go_wp2_with (first
    | (go_at_call 66; ((refine (CY.out _ _ _ HW3.out).mono ?_); rintro e w6 ⟨v6, n6, rfl, b6, k6⟩; have B6 := Lib.hid b6; have K6 := Lib.hid (bThen K3.out k6); clear b6 k6))
    | ((show wpList _ _ _ ({ dst := some 9, .. } :: _) _ _); (refine wpList_load_mid rfl _ _ rfl (w.heap.size + 1) 0 rfl (rlC p A n c A2 n2 c2 : Array Value).toList _ hc Tryz.underlying36 rfl (by kernel_rfl) ?_))
    | ((refine CP2.out.mono ?_); rintro e w3 ⟨rfl, r3, k3⟩; have HW3 := Lib.hid r3; have K3 := Lib.hid ((Kept.trans (P := (· ≠ W1.heap.size)) (.of_below B2.out) k3).below (Nat.le_refl _) (fun j hj => show j ≠ W1.heap.size by omega)); clear r3 k3))
  go_ret2
  exact ⟨v6, n6, rfl, B6.out, K6.out⟩
theorem replies_any (w : World) : Calls Tryz.prog 38 #[] w fun e w' => e = .returned (fm 68 69) ∧ Below w.heap.size w w' := by
  go_enter Tryz.func38, Tryz.ntmps38
  go_wp2
  refine ret_row (C := #[fn 68, fn 69]) (B := w.heap.size) rfl rfl rfl (AtC.new _ _ _) (by kernel_rfl) (by kernel_rfl) ⟨rfl, bAl (Below.refl _ _) _⟩
set_option maxHeartbeats 8000000 in
theorem reply_any (p : Rp) (A : Option Addr) (c : Nat) (A2 : Option Addr) (c2 : Nat) (hF : FineP p) (w : World) (h : RdK enK w w.heap.size A p.es) (h2 : RdK chK w w.heap.size A2 p.cs) :
    Calls Tryz.prog 11 #[rl p A p.es.length c A2 p.cs.length c2] w fun e w' => Bts w (rplB p) e w' := by
  have b0 := bAl (Below.refl w.heap.size w) (.cells (rlC p A p.es.length c A2 p.cs.length c2) 36)
  have m0 := AtC.new w (rlC p A p.es.length c A2 p.cs.length c2) 36
  have B0 := Lib.hid b0
  by_cases h64 : 64 < p.es.length
  ·
    have h65 := h64
    have i1 : (64 : Int) < (p.es.length : Int) := by omega
    have e : rplB p = none := by unfold rplB; rw [if_pos (.inl h64)]
    have mc := m0.c
    rw [e]
    clear h h2 hF e m0 b0
    clear h64 h65
    generalize p.es.length = n at *
    generalize p.cs.length = n2 at *
    go_enter Tryz.func11, Tryz.ntmps11
    go_wp2
    go_ret2
    exact ⟨_, 3, rfl, .no', B0.out⟩
  by_cases h65 : 64 < p.cs.length
  ·
    have i1 : ¬ (64 : Int) < (p.es.length : Int) := by omega
    have i2 : (64 : Int) < (p.cs.length : Int) := by omega
    have e : rplB p = none := by unfold rplB; rw [if_pos (.inr h65)]
    have mc := m0.c
    rw [e]
    clear h h2 hF e m0 b0
    clear h64 h65
    generalize p.es.length = n at *
    generalize p.cs.length = n2 at *
    go_enter Tryz.func11, Tryz.ntmps11
    go_wp2
    go_ret2
    exact ⟨_, 3, rfl, .no', B0.out⟩
  ·
    have i1 : ¬ (64 : Int) < (p.es.length : Int) := by omega
    have i2 : ¬ (64 : Int) < (p.cs.length : Int) := by omega
    have e : rplB p = rplW (some []) p := by unfold rplB; rw [if_neg (fun h => h.elim h64 h65)]
    have H0 := Lib.hid h
    have H1 := Lib.hid h2
    have CW := Lib.hid (fun W (r0 : RdK enK W W.heap.size A p.es) (r1 : RdK chK W W.heap.size A2 p.cs) => writeY_any p A c A2 c2 hF 69 W r0 r1)
    have CC := Lib.hid replies_any
    rw [e]
    clear h h2 hF e
    generalize rplW (some []) p = s at *
    clear h64 h65
    generalize p.es.length = n at *
    generalize p.cs.length = n2 at *
    go_enter Tryz.func11, Tryz.ntmps11
    go_upto_region 1 with fail
    change Code.wp _ _ _ _ (w.alloc (.cells (rlC p A n c A2 n2 c2) 36))
    have HR0 := Lib.hid ((H0.out.below b0).more b0.size)
    have HR1 := Lib.hid ((H1.out.below b0).more b0.size)
    clear b0
    generalize w.alloc (.cells (rlC p A n c A2 n2 c2) 36) = W0 at *
    have mc := m0.c
    have ml := m0.lt
    go_upto_region 3 with fail
    have hP : ∀ w', Below W0.heap.size W0 w' → ∀ i, w'.cell? ⟨w.heap.size, i, none⟩ = (rlC p A n c A2 n2 c2)[i]? := fun w' k => (m0.then k).c
    have hb1 : Below W0.heap.size W0 W0 := Below.refl _ _
    have hb2 : Below W0.heap.size W0 W0.drew := bD1L W0
    clear mc m0
    go_region_held3 (fun w' => (∀ i, w'.cell? ⟨w.heap.size, i, none⟩ = (rlC p A n c A2 n2 c2)[i]?) ∧ Below W0.heap.size W0 w')
      (first | with_reducible assumption | with_reducible exact ⟨hP _ hb1, hb1⟩ | with_reducible exact ⟨hP _ hb2, hb2⟩ | with_reducible exact ⟨hP _ (keepD (by assumption) k3), keepD (by assumption) k3⟩)
      (first
      | (go_at_call 38; (with_reducible refine (CC.out _).mono ?_); rintro e w3 ⟨rfl, k3⟩)
      | (go_at_call 39; (refine (CW.out _ ((HR0.out.below (‹_ ∧ Below W0.heap.size W0 _›).2).more (‹_ ∧ Below W0.heap.size W0 _›).2.size) ((HR1.out.below (‹_ ∧ Below W0.heap.size W0 _›).2).more (‹_ ∧ Below W0.heap.size W0 _›).2.size)).mono ?_); rintro e w4 ⟨v4, n4, rfl, r4, k3⟩; have R4 := Lib.hid r4; have K4 := Lib.hid (bThen (‹_ ∧ Below W0.heap.size W0 _›).2 k3); clear r4))
    all_goals
      go_wp2
      go_ret2
      exact ⟨v4, n4, rfl, R4.out, bThen B0.out K4.out⟩
end Go.Proofs.YtjocbokfdfdkeaaGreat.PX
