/-
  WALK: TreeGone.
-/
import Derived.Test.YtlfbjgeobibnhaaDoorRZRGoneH
namespace Go.Proofs.YtlfbjgeobibnhaaDoor.TX
open Go.RowKit HL
open IX (ptr El cellsK cellsK_at OwnK IxAt Rw numOf mayS strK RdK keys)
set_option maxRecDepth 100000
set_option linter.unusedVariables false
set_option linter.unusedSimpArgs false

theorem GW.at2 {w R W : World} {L0 L : Lay} {s : Sl} {d : Nat} (g : GW w R W L0 L s d) (x : ByteArray) {a : Ob} {b : Bool} (h1 : obAt s x.data.toList = a) (h2 : there s x.data.toList = b) : Calls Tryd.prog 9 #[ptr L0.T, .string x] W fun e W' => e = .returned (.tuple #[ob a, .bool b]) ∧ Below W.heap.size W W' := by
  have q := g.at_ x
  rw [h1, h2] at q
  exact q
theorem GW.many2 {w R W : World} {L0 L : Lay} {s : Sl} {d : Nat} (g : GW w R W L0 L s d) {i : Int} (h1 : ((rowsOf s none).length : Int) = i) : Calls Tryd.prog 14 #[ptr L0.T] W fun e W' => e = .returned (.int .i64 i) ∧ W = W' := by
  have q := g.many
  rw [h1] at q
  exact q
theorem addE_71 {s : Sl} (wf : Wf s) {o : Ob} (h : there s (hb o) = true) : addE s o = 71 := by
  obtain ⟨a, h1, h2, _, _⟩ := there_t h
  unfold addE
  rw [if_pos (by rw [← h2]; exact wf.may _ _ h1), if_pos h]
theorem addE_no {s : Sl} {o : Ob} (h : there s (hb o) = false) : addE s o ≠ 71 := by
  unfold addE
  rw [h]
  split
  · rw [if_neg (by simp)]; split <;> decide
  · decide
theorem one_long (o : Ob) : longA [⟨0, o⟩] = longB o := by simp [longA]
set_option maxHeartbeats 8000000 in
theorem gone_walk {A : Option Addr} (m : Int) (l : List Act8) (c : Nat) (o : Ob) (w : World) (hr : RdK actK w w.heap.size A l) (hl : l.length ≤ maxLen) (hW : Words w) (hK : Kinds w) :
    Calls Tryd.prog 7 #[.int .i64 m, .slice A l.length c, ob o] w fun e w' => e = .returned (.bool true) ∧ Below w.heap.size w w' := by
  have hb : Below w.heap.size w w := Below.refl _ _
  have CA := Lib.hid (fun W (q : Below w.heap.size w W) => awake_any W (hW.then q) (hK.then q))
  have CL := Lib.hid (fun W (q : Below w.heap.size w W) => longA_any A c l W ((hr.below q).more q.size) hl)
  have C1 : Hid (∀ (W W2 : World), Below (W.alloc (.cells (actCells ⟨0, o⟩) 58)).heap.size (W.alloc (.cells (actCells ⟨0, o⟩) 58)) W2 → Calls Tryd.prog 22 #[.slice (some ⟨W.heap.size, 0, none⟩) 1 1] W2 fun e w' => e = .returned (.bool (longB o)) ∧ Below W2.heap.size W2 w') := Lib.hid (fun W W2 q => by
    have := longA_any (some ⟨W.heap.size, 0, none⟩) 1 [⟨0, o⟩] W2 (IX.RdK.more (IX.RdK.below (IX.RdK.more (lits_rd (K := actK) W [⟨0, o⟩] (actCells ⟨0, o⟩) rfl 58) (by simp)) q) q.size) (by show 1 ≤ maxLen; unfold maxLen; decide)
    rw [one_long] at this
    exact this)
  have HR := Lib.hid hr
  have HW := Lib.hid hW
  have HK := Lib.hid hK
  clear hr hW hK
  have MO := Lib.hid (AtC.new w (obCells o) 23)
  cases e1 : longA l with
  | true =>
    rw [e1] at CL
    clear e1
    go_enter Tryd.func7, Tryd.ntmps7
    go_wp2_with (first
      | (go_at_call 21; ((with_reducible refine (CA.out _ (bAl hb _)).mono ?_); rintro e w1 ⟨rfl, k1⟩; have K1 := bThen (bAl hb _) k1; have mc := (MO.out.then k1).c))
      | (go_at_call 22; ((with_reducible refine (CL.out _ (bAl K1 _)).mono ?_); rintro e w2 ⟨rfl, k2⟩; have K2 := bThen (bAl K1 _) k2)))
    go_ret
    exact ⟨rfl, K2⟩
  | false =>
    rw [e1] at CL
    have arm1 := e1
    cases e2 : longB o with
    | true =>
      rw [e2] at C1
      clear e1 e2 arm1
      go_enter Tryd.func7, Tryd.ntmps7
      go_wp2_with (first
        | (go_at_call 21; ((with_reducible refine (CA.out _ (bAl hb _)).mono ?_); rintro e w1 ⟨rfl, k1⟩; have K1 := bThen (bAl hb _) k1; have mc := (MO.out.then k1).c))
        | (go_at_call 22; ((with_reducible refine (CL.out _ (bAl K1 _)).mono ?_); rintro e w2 ⟨rfl, k2⟩; have K2 := bThen (bAl K1 _) k2))
        | (go_at_call 22; (refine (C1.out w1 w2 k2).mono ?_; rintro e w3 ⟨rfl, k3⟩; have K3 := bThen K2 k3)))
      go_ret
      exact ⟨rfl, K3⟩
    | false =>
      rw [e2] at C1
      by_cases b1 : m < 1
      · clear e1 e2 arm1
        go_enter Tryd.func7, Tryd.ntmps7
        go_wp2_with (first
          | (go_at_call 21; ((with_reducible refine (CA.out _ (bAl hb _)).mono ?_); rintro e w1 ⟨rfl, k1⟩; have K1 := bThen (bAl hb _) k1; have M1 := Lib.hid (MO.out.then k1); have mc := M1.out.c))
          | (go_at_call 22; ((with_reducible refine (CL.out _ (bAl K1 _)).mono ?_); rintro e w2 ⟨rfl, k2⟩; have K2 := bThen (bAl K1 _) k2))
          | (go_at_call 22; (refine (C1.out w1 w2 k2).mono ?_; rintro e w3 ⟨rfl, k3⟩; have K3 := bThen K2 k3; have M3 := Lib.hid (((M1.out.al (.cells (actCells ⟨0, o⟩) 58)).then k2).then k3))))
        go_ret
        exact ⟨rfl, K3⟩
      · by_cases b2 : 64 < m
        · clear e1 e2 arm1
          go_enter Tryd.func7, Tryd.ntmps7
          go_wp2_with (first
          | (go_at_call 21; ((with_reducible refine (CA.out _ (bAl hb _)).mono ?_); rintro e w1 ⟨rfl, k1⟩; have K1 := bThen (bAl hb _) k1; have M1 := Lib.hid (MO.out.then k1); have mc := M1.out.c))
          | (go_at_call 22; ((with_reducible refine (CL.out _ (bAl K1 _)).mono ?_); rintro e w2 ⟨rfl, k2⟩; have K2 := bThen (bAl K1 _) k2))
          | (go_at_call 22; (refine (C1.out w1 w2 k2).mono ?_; rintro e w3 ⟨rfl, k3⟩; have K3 := bThen K2 k3; have M3 := Lib.hid (((M1.out.al (.cells (actCells ⟨0, o⟩) 58)).then k2).then k3))))
          go_ret
          exact ⟨rfl, K3⟩
        · obtain ⟨n, rfl⟩ : ∃ n : Nat, m = n := ⟨m.toNat, by omega⟩
          have hlo := longA_out e1
          have hoo := longB_out e2
          have CP := Lib.hid (fun W (q : Below w.heap.size w W) => played_any n (by omega) (by omega) l c W (IX.RdK.more (IX.RdK.below HR.out q) q.size) hlo.1 hlo.2 (HW.out.then q) (HK.out.then q))
          clear e1 e2 arm1 hlo
          go_enter Tryd.func7, Tryd.ntmps7
          go_wp2_with (first
          | (go_at_call 21; ((with_reducible refine (CA.out _ (bAl hb _)).mono ?_); rintro e w1 ⟨rfl, k1⟩; have K1 := bThen (bAl hb _) k1; have M1 := Lib.hid (MO.out.then k1); have mc := M1.out.c))
          | (go_at_call 22; ((with_reducible refine (CL.out _ (bAl K1 _)).mono ?_); rintro e w2 ⟨rfl, k2⟩; have K2 := bThen (bAl K1 _) k2))
          | (go_at_call 22; (refine (C1.out w1 w2 k2).mono ?_; rintro e w3 ⟨rfl, k3⟩; have K3 := bThen K2 k3; have M3 := Lib.hid (((M1.out.al (.cells (actCells ⟨0, o⟩) 58)).then k2).then k3)))
          | (go_at_call 23; (refine (CP.out w3 K3).mono ?_; rintro e w4 ⟨L, s, A', c', inn, rfl, fp, fl, hsn⟩; have M4 := Lib.hid (M3.out.then fp.h.b); have TH4 := Lib.hid fp.h; have FL := Lib.hid fl; have G0 := Lib.hid (GW.start fp.h); clear fp fl; obtain ⟨m, hm⟩ : ∃ m, (rowsOf s none).length = m := ⟨_, rfl⟩; obtain ⟨mw, hmw⟩ : ∃ m, (walkL s).length = m := ⟨_, rfl⟩; have HM := Lib.hid hm; have HMW := Lib.hid hmw; clear hm hmw; obtain ⟨a, ha⟩ : ∃ a, obAt s o.handle.data.toList = a := ⟨_, rfl⟩; obtain ⟨had, hhad⟩ : ∃ b, there s o.handle.data.toList = b := ⟨_, rfl⟩; have HA := Lib.hid ha; have HH := Lib.hid hhad; clear ha hhad))
          | (go_at_call 16; ((with_reducible refine (GW.all G0.out HM.out).mono ?_); rintro e w5 ⟨A5, c5, rfl, o5, k5⟩; have O5 := Lib.hid o5; have G5 := Lib.hid (G0.out.then k5); clear o5))
          | (go_at_call 17; ((with_reducible refine (GW.walk G5.out HMW.out).mono ?_); rintro e w6 ⟨A6, c6, rfl, o6, k6⟩; have O6 := Lib.hid o6; have G6 := Lib.hid (G5.out.then k6); have mc6 := ((M4.out.then k5).then k6).c; clear o6))
          | (go_at_call 9; ((with_reducible refine (GW.at2 G6.out _ HA.out HH.out).mono ?_); rintro e w7 ⟨rfl, k7⟩; have G7 := Lib.hid ((G6.out.then k7).then (bAl (Below.refl _ _) (.cells (obCells a) 23))); clear mc6; have mc7 := (((((M4.out.then k5).then k6).then k7)).al (.cells (obCells a) 23)).c)))
          have wf := TH4.out.t.wf
          have TR : Hid (TH w3 (w7.alloc (.cells (obCells a) 23)) L s 300) := Lib.hid ((((TH4.out.then k5).then k6).then k7).then (bAl (Below.refl _ _) _))
          have GR := Lib.hid (GW.start TR.out)
          have MOR : Hid (AtC (w7.alloc (.cells (obCells a) 23)) w.heap.size (obCells o)) := Lib.hid ((((M4.out.then k5).then k6).then k7).al _)
          have MAR : Hid (AtC (w7.alloc (.cells (obCells a) 23)) w7.heap.size (obCells a)) := Lib.hid (AtC.new w7 (obCells a) 23)
          have O5R : Hid (OwnK obK (w7.alloc (.cells (obCells a) 23)) w4.heap.size (.slice A5 m c5) (obsR s (rowsOf s none))) := Lib.hid (((O5.out.below k6).below k7).below (bAl (Below.refl _ _) _))
          have O6R : Hid (OwnK obK (w7.alloc (.cells (obCells a) 23)) w5.heap.size (.slice A6 mw c6) (walkL s)) := Lib.hid ((O6.out.below k7).below (bAl (Below.refl _ _) _))
          have oth1 : Hid (L.g w.heap.size = .other) := Lib.hid (by
            cases q : L.g w.heap.size with
            | other => rfl
            | _ => have h1 := (TH4.out.t.t.lt _ (by rw [q]; simp)).1; have h2 := M3.out.lt; omega)
          have oth2 : Hid (L.g w7.heap.size = .other) := Lib.hid ((((TH4.out.then k5).then k6).then k7).new (Nat.le_refl _))
          have oth5 : Hid (∀ j, (Value.slice A5 m c5).ownBlock = some j → L.g j = .other) := Lib.hid (fun j e => TH4.out.new (O5.out.lt j e).1)
          have oth6 : Hid (∀ j, (Value.slice A6 mw c6).ownBlock = some j → L.g j = .other) := Lib.hid (fun j e => TH4.out.new (Nat.le_trans k5.size (O6.out.lt j e).1))
          have HW3 := Lib.hid (HW.out.then K3)
          have HK3 := Lib.hid (HK.out.then K3)
          have HZ : Hid (o.handle.size ≤ maxLen) := Lib.hid (Nat.le_trans hoo.1 (by unfold maxLen; decide))
          have HP : Hid ((pb o).length ≤ 100) := Lib.hid hoo.2.1
          have hm64 : m ≤ 64 := HM.out ▸ Nat.le_trans (rowsOf_len s none) wf.ln
          have HQ5 : Hid ((obsR s (rowsOf s none)).length = m) := Lib.hid (by rw [obsR, List.length_map]; exact HM.out)
          have HM5 : Hid (m ≤ 1000000) := Lib.hid (by omega)
          have HM6 : Hid (mw ≤ 1000000) := Lib.hid (by have := walk_len wf; have := HMW.out; omega)
          have CY := Lib.hid (fun W => Go.Proofs.YtlfbjgeobibnhaaDoor.HL.may_any o.handle W HZ.out)
          have mi64 : (m : Int) ≤ 64 := by omega
          clear hoo hm64 CP CA CL C1 HW HK G5 G6 G7 G0 HR
          cases had with
          | true =>
            have hth : there s (TX.hb o) = true := HH.out
            have E1 : Hid (addE s o = 71) := Lib.hid (addE_71 wf hth)
            have E2 : Hid (addS s o = s) := Lib.hid (addS_no (by rw [E1.out]; decide))
            have hy : Go.Proofs.YtlfbjgeobibnhaaDoor.HL.mayB o.handle = true := by
              obtain ⟨z, h1, h2, _, _⟩ := there_t hth
              have := wf.may _ _ h1
              rw [h2] at this
              exact this
            rw [hy] at CY
            obtain ⟨z1, z2, z3⟩ := set_slot wf hth HP.out
            have hba : TX.hb a = TX.hb o := by
              obtain ⟨z, h1, h2, h3, _⟩ := there_t hth
              rw [← HA.out, h3, h2]
            have hpa : (pb a).length ≤ 100 := by
              obtain ⟨z, h1, h2, h3, _⟩ := there_t hth
              rw [← HA.out, h3]
              exact wf.pl _ _ h1
            obtain ⟨s2, hs2⟩ : ∃ s2, setS s o = s2 := ⟨_, rfl⟩
            have S1 : Hid (hasE s (TX.hb o) = 0) := Lib.hid (by unfold hasE; rw [if_pos hth])
            have S2 := Lib.hid hs2
            have S3 : Hid (((rowsOf s2 none).length : Int) = m) := Lib.hid (by rw [← hs2, set_many FL.out wf hth, HM.out])
            have S4 : Hid (hasE s2 (TX.hb a) = 0) := Lib.hid (by unfold hasE; rw [← hs2, hba, if_pos z1])
            have S5 : Hid (setS s2 a = s) := Lib.hid (by rw [← hs2, ← HA.out]; exact set_back wf hth HP.out)
            have HPA := Lib.hid hpa
            clear hth hy z1 z2 z3 hba hpa hs2 wf
            go_wp2_with (first
              | (go_at_call 11; ((with_reducible refine (GW.add GR.out (by decide) HW3.out HK3.out HZ.out HP.out E1.out E2.out).mono ?_); rintro e w8 ⟨L8, rfl, g8⟩; have G8 := Lib.hid g8; clear mc7; have mc8 := (g8.box MOR.out oth1.out).c; clear g8))
              | (go_at_call 27; ((with_reducible refine (CY.out _).mono ?_); rintro e w9 ⟨rfl, k9⟩; have G9 := Lib.hid (G8.out.then k9); clear mc8; have mc9 := (G9.out.box MOR.out oth1.out).c))
              | (go_at_call 12; ((with_reducible refine (GW.set G9.out (by decide) HP.out S1.out S2.out).mono ?_); rintro e w10 ⟨L10, rfl, g10⟩; have G10 := Lib.hid g10; clear mc9; have mc10 := (g10.box MOR.out oth1.out).c; have ma10 := (g10.box MAR.out oth2.out).c; clear g10))
              | (go_at_call 14; ((with_reducible refine (GW.many2 G10.out S3.out).mono ?_); rintro e w11 ⟨rfl, rfl⟩))
              | (go_at_call 12; ((with_reducible refine (GW.set (o := a) G10.out (by decide) HPA.out S4.out S5.out).mono ?_); rintro e w11 ⟨L11, rfl, g11⟩; have GE := Lib.hid g11; clear mc10 ma10 g11))
              | (go_at_call 16; ((with_reducible refine (GW.all GE.out HM.out).mono ?_); rintro e w12 ⟨A12, c12, rfl, o12, k12⟩; have O12 := Lib.hid o12; have G12 := Lib.hid (GE.out.then k12); clear o12))
              | (go_at_call 28; ((with_reducible refine (sameO_yes A12 A5 c12 c5 m (obsR s (rowsOf s none)) w12 (own_rd O12.out) (own_rd (G12.out.row O5R.out oth5.out)) HQ5.out HM5.out).mono ?_); rintro e w13 ⟨rfl, k13⟩; have G13 := Lib.hid (G12.out.then k13)))
              | (go_at_call 17; ((with_reducible refine (GW.walk G13.out HMW.out).mono ?_); rintro e w14 ⟨A14, c14, rfl, o14, k14⟩; have O14 := Lib.hid o14; have G14 := Lib.hid (G13.out.then k14); clear o14))
              | (go_at_call 28; ((with_reducible refine (sameO_yes A14 A6 c14 c6 mw (walkL s) w14 (own_rd O14.out) (own_rd (G14.out.row O6R.out oth6.out)) HMW.out HM6.out).mono ?_); rintro e w15 ⟨rfl, k15⟩; have G15 := Lib.hid (G14.out.then k15))))
            go_ret
            exact ⟨rfl, (K3.trans (G15.out.b.mono K3.size))⟩
          | false =>
            have hth : there s (TX.hb o) = false := HH.out
            have hne := addE_no hth
            have S1 : Hid (hasE s (TX.hb o) = 70) := Lib.hid (by unfold hasE; rw [if_neg (by rw [hth]; simp)])
            have S2 : Hid (setS s o = s) := Lib.hid (setS_no hth)
            have S3 : Hid (remS s (TX.hb o) = s) := Lib.hid (remS_no hth)
            by_cases he : addE s o = 0
            · obtain ⟨y1, y2, y3, y4⟩ := add_there wf he HP.out
              obtain ⟨s1, hs1⟩ : ∃ s1, addS s o = s1 := ⟨_, rfl⟩
              have E1 := Lib.hid he
              have E2 := Lib.hid hs1
              have Y1 : Hid (obAt s1 o.handle.data.toList = o) := Lib.hid (by rw [← hs1]; exact y4)
              have Y2 : Hid (there s1 o.handle.data.toList = true) := Lib.hid (by rw [← hs1]; exact y2)
              have Y3 : Hid (((rowsOf s1 none).length : Int) = m + 1) := Lib.hid (by rw [← hs1, add_many FL.out he, HM.out]; push_cast; rfl)
              have Y4 : Hid (hasE s1 (TX.hb o) = 0) := Lib.hid (by unfold hasE; rw [← hs1, if_pos y2])
              have Y5 : Hid (remS s1 (TX.hb o) = s) := Lib.hid (by rw [← hs1]; exact rem_back wf he HP.out)
              clear hth hne he y1 y2 y3 y4 hs1 wf
              go_wp2_with (first
                | (go_at_call 11; ((with_reducible refine (GW.add GR.out (by decide) HW3.out HK3.out HZ.out HP.out E1.out E2.out).mono ?_); rintro e w8 ⟨L8, rfl, g8⟩; have G8 := Lib.hid g8; clear mc7; have mc8 := (g8.box MOR.out oth1.out).c; clear g8))
                | (go_at_call 9; ((with_reducible refine (GW.at2 G8.out _ Y1.out Y2.out).mono ?_); rintro e w9 ⟨rfl, k9⟩; have G9 := Lib.hid (G8.out.then (bAl k9 (.cells (obCells o) 23))); clear mc8; have mc9 := (G9.out.box MOR.out oth1.out).c; have mx9 := (AtC.new w9 (obCells o) 23).c))
                | (go_at_call 14; ((with_reducible refine (GW.many2 G9.out Y3.out).mono ?_); rintro e w10 ⟨rfl, rfl⟩))
                | (go_at_call 13; ((with_reducible refine (GW.rem G9.out (by decide) Y4.out Y5.out).mono ?_); rintro e w10 ⟨L10, rfl, g10⟩; have G10 := Lib.hid g10; clear mc9 mx9; have mc10 := (g10.box MOR.out oth1.out).c; clear g10))
                | (go_at_call 12; ((with_reducible refine (GW.set G10.out (by decide) HP.out S1.out S2.out).mono ?_); rintro e w11 ⟨L11, rfl, g11⟩; have G11 := Lib.hid g11; clear mc10; have mc11 := (g11.box MOR.out oth1.out).c; clear g11))
                | (go_at_call 13; ((with_reducible refine (GW.rem G11.out (by decide) S1.out S3.out).mono ?_); rintro e w11 ⟨L12, rfl, g12⟩; have GE := Lib.hid g12; clear mc11 g12))
                | (go_at_call 16; ((with_reducible refine (GW.all GE.out HM.out).mono ?_); rintro e w12 ⟨A12, c12, rfl, o12, k12⟩; have O12 := Lib.hid o12; have G12 := Lib.hid (GE.out.then k12); clear o12))
                | (go_at_call 28; ((with_reducible refine (sameO_yes A12 A5 c12 c5 m (obsR s (rowsOf s none)) w12 (own_rd O12.out) (own_rd (G12.out.row O5R.out oth5.out)) HQ5.out HM5.out).mono ?_); rintro e w13 ⟨rfl, k13⟩; have G13 := Lib.hid (G12.out.then k13)))
                | (go_at_call 17; ((with_reducible refine (GW.walk G13.out HMW.out).mono ?_); rintro e w14 ⟨A14, c14, rfl, o14, k14⟩; have O14 := Lib.hid o14; have G14 := Lib.hid (G13.out.then k14); clear o14))
                | (go_at_call 28; ((with_reducible refine (sameO_yes A14 A6 c14 c6 mw (walkL s) w14 (own_rd O14.out) (own_rd (G14.out.row O6R.out oth6.out)) HMW.out HM6.out).mono ?_); rintro e w15 ⟨rfl, k15⟩; have G15 := Lib.hid (G14.out.then k15))))
              go_ret
              exact ⟨rfl, (K3.trans (G15.out.b.mono K3.size))⟩
            · have E2 : Hid (addS s o = s) := Lib.hid (addS_no he)
              obtain ⟨ee, hee⟩ : ∃ ee, addE s o = ee := ⟨_, rfl⟩
              rw [hee] at hne he
              have E1 := Lib.hid hee
              clear hth hee wf
              go_wp2_with (first
                | (go_at_call 11; ((with_reducible refine (GW.add GR.out (by decide) HW3.out HK3.out HZ.out HP.out E1.out E2.out).mono ?_); rintro e w8 ⟨L8, rfl, g8⟩; have G8 := Lib.hid g8; clear mc7; have mc8 := (g8.box MOR.out oth1.out).c; clear g8))
                | (go_at_call 12; ((with_reducible refine (GW.set G8.out (by decide) HP.out S1.out S2.out).mono ?_); rintro e w11 ⟨L11, rfl, g11⟩; have G11 := Lib.hid g11; clear mc8; have mc11 := (g11.box MOR.out oth1.out).c; clear g11))
                | (go_at_call 13; ((with_reducible refine (GW.rem G11.out (by decide) S1.out S3.out).mono ?_); rintro e w11 ⟨L12, rfl, g12⟩; have GE := Lib.hid g12; clear mc11 g12))
                | (go_at_call 16; ((with_reducible refine (GW.all GE.out HM.out).mono ?_); rintro e w12 ⟨A12, c12, rfl, o12, k12⟩; have O12 := Lib.hid o12; have G12 := Lib.hid (GE.out.then k12); clear o12))
                | (go_at_call 28; ((with_reducible refine (sameO_yes A12 A5 c12 c5 m (obsR s (rowsOf s none)) w12 (own_rd O12.out) (own_rd (G12.out.row O5R.out oth5.out)) HQ5.out HM5.out).mono ?_); rintro e w13 ⟨rfl, k13⟩; have G13 := Lib.hid (G12.out.then k13)))
                | (go_at_call 17; ((with_reducible refine (GW.walk G13.out HMW.out).mono ?_); rintro e w14 ⟨A14, c14, rfl, o14, k14⟩; have O14 := Lib.hid o14; have G14 := Lib.hid (G13.out.then k14); clear o14))
                | (go_at_call 28; ((with_reducible refine (sameO_yes A14 A6 c14 c6 mw (walkL s) w14 (own_rd O14.out) (own_rd (G14.out.row O6R.out oth6.out)) HMW.out HM6.out).mono ?_); rintro e w15 ⟨rfl, k15⟩; have G15 := Lib.hid (G14.out.then k15))))
              go_ret
              exact ⟨rfl, (K3.trans (G15.out.b.mono K3.size))⟩
end Go.Proofs.YtlfbjgeobibnhaaDoor.TX
