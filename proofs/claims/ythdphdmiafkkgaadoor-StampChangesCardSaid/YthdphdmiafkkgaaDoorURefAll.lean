/-
  WALK: as many changes as can be made: the document's All.
-/
import Derived.Test.YthdphdmiafkkgaaDoorUAll
import Derived.Test.YthdphdmiafkkgaaDoorURefNext
import Derived.Deep.RegionHeld3
namespace Go.Proofs.YthdphdmiafkkgaaDoor.UX
open Go.RowKit FixMath
open IX (RdK OwnK)
open YX (u8K rdY)
set_option maxRecDepth 100000
set_option linter.unusedVariables false
set_option linter.unusedSimpArgs false

theorem below_drew1 {w W : World} (h : Below w.heap.size w W) : Below w.heap.size w W.drew := h.drew
set_option maxHeartbeats 4000000 in
theorem refAll15_any (d s : Int) (A : Option Addr) (l : Bs) (c : Nat) (w : World) (h : RdK u8K w w.heap.size A l) (hl : l.length ≤ 1000) : Calls Tryd.prog 10 #[sp d s, .slice A l.length c] w fun e w' => e = .returned (alV d s (kds l)) ∧ Below w.heap.size w w' := by
  have hb0 : Below w.heap.size w w := Below.refl _ _
  have HL : Hid ((kds l).length = l.length) := Lib.hid (by simp)
  have hN := Lib.hid (fun (x y : Int) (k : Nat) (W : World) => refNext15_any x y k W)
  have H := Lib.hid h
  clear h
  go_enter Tryd.func10, Tryd.ntmps10
  go_wp2
  go_loopw [7] (fun i wr => ∃ (k : Nat) (x y : Int), i = .int .i64 k ∧ k ≤ l.length ∧ Hid (Step d s (kds l) k x y) ∧ At2 wr w.heap.size x y ∧ At2 wr (w.heap.size + 1) 0 0 ∧ Below w.heap.size w wr) (fun i _ => l.length - (intOf i).toNat)
  case atStart =>
    refine ⟨0, d, s, rfl, Nat.zero_le _, Lib.hid (Step.start _ _ _), (At2.new w d s _).al _, ?_, bAl (bAl hb0 _) _⟩
    have r := At2.new (w.alloc (.cells #[.int .i64 d, .int .i64 s] 23)) 0 0 23
    simp at r
    exact r
  case round =>
    obtain ⟨k, x, y, rfl, hk, HS, m, r, hb⟩ := hrel
    have m0 := m.c0; have m1 := m.c1; have ml := m.lt; have rl := r.lt
    by_cases hlt : k < l.length
    · obtain ⟨b, off, rfl, hB, hc⟩ := (rdY (H.out.below hb)).at_ (by omega)
      have hcell := hc k l[k] (List.getElem?_eq_getElem hlt)
      have hKD : (kds l)[k]? = some l[k].toNat := by simp [hlt]
      have u := l[k].toNat_lt
      obtain ⟨z, hz⟩ : ∃ z, l[k].toNat = z := ⟨_, rfl⟩
      replace hcell : wr.cell? ⟨b, off + k, none⟩ = some (.int .u8 (l[k].toNat : Int)) := hcell
      rw [hz] at hcell hKD u
      obtain ⟨e0, he⟩ : ∃ e0, nxE x y z = e0 := ⟨_, rfl⟩
      have CN := Lib.hid (fun (W : World) => hN.out x y z W)
      rw [nx_eq he] at CN
      have hcases := nxE_cases x y z
      rw [he] at hcases
      have HZ := Lib.hid he
      have HK := Lib.hid hKD
      clear hz hc hKD he
      obtain ⟨X, hX⟩ : ∃ X, nxD x y z = X := ⟨_, rfl⟩
      obtain ⟨Y, hY⟩ : ∃ Y, nxS x y z = Y := ⟨_, rfl⟩
      rw [hX, hY] at CN
      have HXY := Lib.hid (And.intro hX hY)
      clear hX hY
      have j1 : (0 : Int) ≤ (k : Int) := by omega
      have j2 : (k : Int) < (l.length : Int) := by omega
      have hbl : b < wr.heap.size := World.block_lt_of_cell? _ _ hcell
      have hP : ∀ w', Below wr.heap.size wr w' → w'.cell? ⟨b, off + k, none⟩ = some (.int .u8 (z : Int)) ∧ w'.cell? ⟨w.heap.size, 0, none⟩ = some (.int .i64 x) ∧ w'.cell? ⟨w.heap.size, 1, none⟩ = some (.int .i64 y) := fun w' q => ⟨(q.cell (p := ⟨b, _, none⟩) hbl).trans hcell, (q.cell (p := ⟨w.heap.size, _, none⟩) ml).trans m0, (q.cell (p := ⟨w.heap.size, _, none⟩) ml).trans m1⟩
      have hR1 : Below wr.heap.size wr wr := Below.refl _ _
      have hR2 : Below wr.heap.size wr wr.drew := hR1.drew
      have hS : ∀ W', Below wr.heap.size wr W' → ((W'.cell? ⟨b, off + k, none⟩ = some (.int .u8 (z : Int)) ∧ W'.cell? ⟨w.heap.size, 0, none⟩ = some (.int .i64 x) ∧ W'.cell? ⟨w.heap.size, 1, none⟩ = some (.int .i64 y)) ∧ Below wr.heap.size wr W') := fun W' q => ⟨hP W' q, q⟩
      clear hP hR1 hR2
      rcases hcases with rfl | rfl | rfl
      · skip
        go_wp2_with fail
        go_region_held3 (fun W' => (W'.cell? ⟨b, off + k, none⟩ = some (.int .u8 (z : Int)) ∧ W'.cell? ⟨w.heap.size, 0, none⟩ = some (.int .i64 x) ∧ W'.cell? ⟨w.heap.size, 1, none⟩ = some (.int .i64 y)) ∧ Below wr.heap.size wr W')
          (first | with_reducible exact hS _ (bSet (And.right ‹_ ∧ Below wr.heap.size wr w3›) (Nat.le_refl _) _ _) | with_reducible exact hS _ (Below.refl _ _).drew | with_reducible exact hS _ (keepD (by assumption) k3) | with_reducible exact hS _ (bAl (Below.refl _ _).drew _) | with_reducible exact hS _ (bAl (Below.refl _ _) _).drew | with_reducible exact hS _ (bAl (bThen (Below.refl _ _).drew k3) _))
          ((go_at_call 12; (with_reducible refine (CN.out _).mono ?_); rintro e w3 ⟨rfl, k3⟩; first | (with_reducible have mT := (AtC.new _ _ _).drew1.then k3; have tf := mT.f; have tl := mT.lt; have tc := mT.c) | skip))
        · rename_i hH
          have K4 := hH.2
          have n4 := At2.new w3 X Y 23
          have hs3 : wr.heap.size ≤ w3.heap.size := by have q := k3.size; simpa using q
          have t := m.then K4
          have rt := r.then K4
          have hb1 := bThen hb K4
          have t0 := t.c0; have t1 := t.c1; have t2 := t.f0; have t3 := t.f1; have tl := t.lt
          have q0 := rt.c0; have q1 := rt.c1; have q2 := rt.f0; have q3 := rt.f1; have rl2 := rt.lt
          have n0 := n4.c0; have n1 := n4.c1; have nl := n4.lt
          clear hH
          go_wp2
          go_roundw
          case rel =>
            refine ⟨k + 1, X, Y, by go_num, by omega, Lib.hid ?_, ?_, ?_, ?_⟩
            · have q := HS.out.next HK.out HZ.out
              rwa [HXY.out.1, HXY.out.2] at q
            · first | exact t.set X Y | exact (t.set X Y).al _
            · exact (rt.store (by simp) _).store (by simp) _
            · exact bSet hb1 (Nat.le_refl _) _ _
          case measure => simp [intOf]; omega
        · rename_i hH
          have K4 := hH.2
          have n4 : At2 _ wr.heap.size X Y := At2.set (a := 0) (b := 0) ⟨mT.lt, mT.c 0, mT.c 1, mT.f 0, mT.f 1⟩ X Y
          have t := m.then K4
          have rt := r.then K4
          have hb1 := bThen hb K4
          have t0 := t.c0; have t1 := t.c1; have t2 := t.f0; have t3 := t.f1; have tl := t.lt
          have q0 := rt.c0; have q1 := rt.c1; have q2 := rt.f0; have q3 := rt.f1; have rl2 := rt.lt
          have n0 := n4.c0; have n1 := n4.c1; have nl := n4.lt
          clear hH
          go_wp2
          go_roundw
          case rel =>
            refine ⟨k + 1, X, Y, by go_num, by omega, Lib.hid ?_, ?_, ?_, ?_⟩
            · have q := HS.out.next HK.out HZ.out
              rwa [HXY.out.1, HXY.out.2] at q
            · first | exact t.set X Y | exact (t.set X Y).al _
            · exact (rt.store (by simp) _).store (by simp) _
            · exact bSet hb1 (Nat.le_refl _) _ _
          case measure => simp [intOf]; omega
      all_goals
        have HV := Lib.hid (HS.out.stop HK.out (by rw [HZ.out]; decide))
        rw [HZ.out] at HV
        go_wp2_with fail
        go_region_held3 (fun W' => (W'.cell? ⟨b, off + k, none⟩ = some (.int .u8 (z : Int)) ∧ W'.cell? ⟨w.heap.size, 0, none⟩ = some (.int .i64 x) ∧ W'.cell? ⟨w.heap.size, 1, none⟩ = some (.int .i64 y)) ∧ Below wr.heap.size wr W')
          (first | with_reducible exact hS _ (bSet (And.right ‹_ ∧ Below wr.heap.size wr w3›) (Nat.le_refl _) _ _) | with_reducible exact hS _ (Below.refl _ _).drew | with_reducible exact hS _ (keepD (by assumption) k3) | with_reducible exact hS _ (bAl (Below.refl _ _).drew _) | with_reducible exact hS _ (bAl (Below.refl _ _) _).drew | with_reducible exact hS _ (bAl (bThen (Below.refl _ _).drew k3) _))
          ((go_at_call 12; (with_reducible refine (CN.out _).mono ?_); rintro e w3 ⟨rfl, k3⟩; first | (with_reducible have mT := (AtC.new _ _ _).drew1.then k3; have tf := mT.f; have tl := mT.lt; have tc := mT.c) | skip))
        · rename_i hH
          have K4 := hH.2
          have n4 := At2.new w3 X Y 23
          have hs3 : wr.heap.size ≤ w3.heap.size := by have q := k3.size; simpa using q
          have t := m.then K4
          have rt := r.then K4
          have hb1 := bThen hb K4
          have t0 := t.c0; have t1 := t.c1; have t2 := t.f0; have t3 := t.f1; have tl := t.lt
          have q0 := rt.c0; have q1 := rt.c1; have q2 := rt.f0; have q3 := rt.f1; have rl2 := rt.lt
          have n0 := n4.c0; have n1 := n4.c1; have nl := n4.lt
          clear hH
          go_wp2
          exact ret_st_tmp2 rfl rfl rfl rfl rfl (rt.set _ _) ⟨by rw [HV.out]; rfl, bSet hb1 (by simp) _ _⟩
        · rename_i hH
          have K4 := hH.2
          have n4 : At2 _ wr.heap.size X Y := At2.set (a := 0) (b := 0) ⟨mT.lt, mT.c 0, mT.c 1, mT.f 0, mT.f 1⟩ X Y
          have t := m.then K4
          have rt := r.then K4
          have hb1 := bThen hb K4
          have t0 := t.c0; have t1 := t.c1; have t2 := t.f0; have t3 := t.f1; have tl := t.lt
          have q0 := rt.c0; have q1 := rt.c1; have q2 := rt.f0; have q3 := rt.f1; have rl2 := rt.lt
          have n0 := n4.c0; have n1 := n4.c1; have nl := n4.lt
          clear hH
          go_wp2
          exact ret_st_tmp2 rfl rfl rfl rfl rfl (rt.set _ _) ⟨by rw [HV.out]; rfl, bSet hb1 (by simp) _ _⟩
    · obtain rfl : k = l.length := by omega
      have HV := HS.out
      rw [← HL.out] at HV
      have HV := Lib.hid HV.end_
      rw [HL.out] at HV
      have g0 := r.f0; have g1 := r.f1; have r0 := r.c0; have r1 := r.c1
      go_wp2
      exact ret_st_tmp2 rfl rfl rfl rfl rfl (r.set _ _) ⟨by rw [HV.out]; rfl, bSet hb (by simp) _ _⟩
end Go.Proofs.YthdphdmiafkkgaaDoor.UX
