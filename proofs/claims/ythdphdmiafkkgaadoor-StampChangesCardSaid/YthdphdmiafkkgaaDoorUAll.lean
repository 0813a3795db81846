/-
  WALKS: as many changes as can be made: the program's All.
-/
import Derived.Test.YthdphdmiafkkgaaDoorUNext
import Derived.Test.YthdphdmiafkkgaaDoorYKit
namespace Go.Proofs.YthdphdmiafkkgaaDoor.UX
open Go.RowKit FixMath
open IX (RdK OwnK)
open YX (u8K rdY)
set_option maxRecDepth 100000
set_option linter.unusedVariables false
set_option linter.unusedSimpArgs false

abbrev kds (l : Bs) : List Nat := l.map (·.toNat)
def aD (d s : Int) (l : List Nat) : Int := (allS d s l).1
def aS (d s : Int) (l : List Nat) : Int := (allS d s l).2.1
def aN (d s : Int) (l : List Nat) : Nat := (allS d s l).2.2.1
def aE (d s : Int) (l : List Nat) : Int := (allS d s l).2.2.2
abbrev alV (d s : Int) (l : List Nat) : Value := .tuple #[sp (aD d s l) (aS d s l), .int .i64 (aN d s l), .int .i64 (aE d s l)]
/-- Behind the first k changes, each of which could be made. -/
structure Step (d s : Int) (l : List Nat) (k : Nat) (x y : Int) : Prop where
  hd : aD d s l = aD x y (l.drop k)
  hs : aS d s l = aS x y (l.drop k)
  hn : aN d s l = aN x y (l.drop k) + k
  he : aE d s l = aE x y (l.drop k)
theorem Step.start (d s : Int) (l : List Nat) : Step d s l 0 d s := ⟨rfl, rfl, rfl, rfl⟩
theorem Step.end_ {d s : Int} {l : List Nat} {x y : Int} (h : Step d s l l.length x y) : alV d s l = .tuple #[sp x y, .int .i64 l.length, .int .i64 0] := by
  obtain ⟨h1, h2, h3, h4⟩ := h
  rw [List.drop_length] at h1 h2 h3 h4
  unfold alV
  rw [h1, h2, h3, h4]
  simp [aD, aS, aN, aE, allS]
theorem Step.stop {d s : Int} {l : List Nat} {k : Nat} {x y : Int} {c : Nat} (h : Step d s l k x y) (hc : l[k]? = some c) (hz : nxE x y c ≠ 0) : alV d s l = .tuple #[sp x y, .int .i64 k, .int .i64 (nxE x y c)] := by
  obtain ⟨hk, hc⟩ := List.getElem?_eq_some_iff.1 hc
  obtain ⟨h1, h2, h3, h4⟩ := h
  rw [List.drop_eq_getElem_cons hk, hc] at h1 h2 h3 h4
  unfold alV
  rw [h1, h2, h3, h4]
  simp [aD, aS, aN, aE, allS, if_neg hz]
theorem Step.next {d s : Int} {l : List Nat} {k : Nat} {x y : Int} {c : Nat} (h : Step d s l k x y) (hc : l[k]? = some c) (hz : nxE x y c = 0) : Step d s l (k + 1) (nxD x y c) (nxS x y c) := by
  obtain ⟨hk, hc⟩ := List.getElem?_eq_some_iff.1 hc
  obtain ⟨h1, h2, h3, h4⟩ := h
  rw [List.drop_eq_getElem_cons hk, hc] at h1 h2 h3 h4
  refine ⟨h1.trans ?_, h2.trans ?_, h3.trans ?_, h4.trans ?_⟩ <;> (simp [aD, aS, aN, aE, allS, if_pos hz]; try omega)
theorem nx_eq {d s : Int} {k : Nat} {e0 : Int} (h : nxE d s k = e0) : nxV d s k = .tuple #[sp (nxD d s k) (nxS d s k), .int .i64 e0] := by rw [← h]
set_option maxHeartbeats 4000000 in
theorem stAll_any (d s : Int) (A : Option Addr) (l : Bs) (c : Nat) (w : World) (hA : Adds w) (h : RdK u8K w w.heap.size A l) (hl : l.length ≤ 1000) : Calls Tryd.prog 9 #[sp d s, .slice A l.length c] w fun e w' => e = .returned (alV d s (kds l)) ∧ Below w.heap.size w w' := by
  have hb0 : Below w.heap.size w w := Below.refl _ _
  have HL : Hid ((kds l).length = l.length) := Lib.hid (by simp)
  have hN := Lib.hid (fun (x y : Int) (k : Nat) (W : World) (q : Below w.heap.size w W) => stNext_any x y k W ⟨Nat.lt_of_lt_of_le hA.1 q.size, fun j hj => ⟨(q.cell (p := ⟨0, _, none⟩) hA.1).trans (hA.2 j hj).1, (q.cell (p := ⟨0, _, none⟩) hA.1).trans (hA.2 j hj).2⟩⟩)
  have H := Lib.hid h
  clear h hA
  go_enter Tryd.func9, Tryd.ntmps9
  go_wp2
  go_loopw [13] (fun i wr => ∃ (k : Nat) (x y : Int), i = .int .i64 k ∧ k ≤ l.length ∧ Hid (Step d s (kds l) k x y) ∧ At2 wr w.heap.size x y ∧ At2 wr (w.heap.size + 1) 0 0 ∧ Below w.heap.size w wr) (fun i _ => l.length - (intOf i).toNat)
  case atStart =>
    refine ⟨0, d, s, rfl, Nat.zero_le _, Lib.hid (Step.start _ _ _), (At2.new w d s _).al _, ?_, bAl (bAl hb0 _) _⟩
    have r := At2.new (w.alloc (.cells #[.int .i64 d, .int .i64 s] 23)) 0 0 23
    simp at r
    exact r
  case round =>
    obtain ⟨k, x, y, rfl, hk, HS, m, r, hb⟩ := hrel
    have m0 := m.c0; have m1 := m.c1; have ml := m.lt; have rl := r.lt
    by_cases hlt : k < l.length
    · obtain ⟨b, off, rfl, hB, hc⟩ := (rdY (H.out.below hb)).at_ (by omega)
      have hcell := hc k l[k] (List.getElem?_eq_getElem hlt)
      have hKD : (kds l)[k]? = some l[k].toNat := by simp [hlt]
      have u := l[k].toNat_lt
      obtain ⟨z, hz⟩ : ∃ z, l[k].toNat = z := ⟨_, rfl⟩
      replace hcell : wr.cell? ⟨b, off + k, none⟩ = some (.int .u8 (l[k].toNat : Int)) := hcell
      rw [hz] at hcell hKD u
      obtain ⟨e0, he⟩ : ∃ e0, nxE x y z = e0 := ⟨_, rfl⟩
      have CN := Lib.hid (fun (W : World) (q : Below w.heap.size w W) => hN.out x y z W q)
      rw [nx_eq he] at CN
      have hcases := nxE_cases x y z
      rw [he] at hcases
      have HZ := Lib.hid he
      have HK := Lib.hid hKD
      clear hz hc hKD he
      obtain ⟨X, hX⟩ : ∃ X, nxD x y z = X := ⟨_, rfl⟩
      obtain ⟨Y, hY⟩ : ∃ Y, nxS x y z = Y := ⟨_, rfl⟩
      rw [hX, hY] at CN
      have HXY := Lib.hid (And.intro hX hY)
      clear hX hY
      rcases hcases with rfl | rfl | rfl
      · go_wp2_with (go_at_call 11; ((with_reducible refine (CN.out _ hb).mono ?_); rintro e w1 ⟨rfl, k1⟩; have t := m.then k1; have t0 := t.c0; have t1 := t.c1; have g0 := t.f0; have g1 := t.f1; have tl := t.lt; have rt := r.then k1; have hb1 := bThen hb k1))
        go_roundw
        case rel =>
          refine ⟨k + 1, X, Y, by go_num, by omega, Lib.hid ?_, (t.set X Y).al _, ((rt.store (by simp) _).store (by simp) _).al _, bAl (bSet hb1 (Nat.le_refl _) _ _) _⟩
          have q := HS.out.next HK.out HZ.out
          rwa [HXY.out.1, HXY.out.2] at q
        case measure => simp [intOf]; omega
      all_goals
        have HV := Lib.hid (HS.out.stop HK.out (by rw [HZ.out]; decide))
        rw [HZ.out] at HV
        go_wp2_with (go_at_call 11; ((with_reducible refine (CN.out _ hb).mono ?_); rintro e w1 ⟨rfl, k1⟩; have t := m.then k1; have t0 := t.c0; have t1 := t.c1; have tl := t.lt; have rt := r.then k1; have g0 := rt.f0; have g1 := rt.f1; have r0 := rt.c0; have r1 := rt.c1; have rl2 := rt.lt; have hb1 := bThen hb k1))
        exact ret_st_tmp2 rfl rfl rfl rfl rfl ((rt.set _ _).al _) ⟨by rw [HV.out]; rfl, bAl (bSet hb1 (by simp) _ _) _⟩
    · obtain rfl : k = l.length := by omega
      have HV := HS.out
      rw [← HL.out] at HV
      have HV := Lib.hid HV.end_
      rw [HL.out] at HV
      have g0 := r.f0; have g1 := r.f1; have r0 := r.c0; have r1 := r.c1
      go_wp2
      exact ret_st_tmp2 rfl rfl rfl rfl rfl (r.set _ _) ⟨by rw [HV.out]; rfl, bSet hb (by simp) _ _⟩
end Go.Proofs.YthdphdmiafkkgaaDoor.UX
