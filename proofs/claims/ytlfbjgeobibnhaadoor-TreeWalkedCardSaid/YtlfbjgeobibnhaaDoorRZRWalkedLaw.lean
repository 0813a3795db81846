/-
  WALK: TreeWalked.
-/
import Derived.Test.YtlfbjgeobibnhaaDoorRZRLawKit
import Derived.Deep.OwnRows
namespace Go.Proofs.YtlfbjgeobibnhaaDoor.TX
open Go.RowKit HL
open IX (ptr El cellsK cellsK_at OwnK IxAt Rw numOf mayS strK RdK keys)
set_option maxRecDepth 100000
set_option linter.unusedVariables false
set_option linter.unusedSimpArgs false
set_option maxHeartbeats 16000000
theorem walked_walk_long {A : Option Addr} (m : Int) (l : List Act8) (c : Nat) (w : World) (hr : RdK actK w w.heap.size A l) (hl : l.length ≤ maxLen) (hW : Words w) (hK : Kinds w) (e1 : longA l = true) :
    Calls Tryd.prog 5 #[.int .i64 m, .slice A l.length c] w fun e w' => e = .returned (.bool true) ∧ Below w.heap.size w w' := by
  have hb : Below w.heap.size w w := Below.refl _ _
  have CA := Lib.hid (fun W (q : Below w.heap.size w W) => awake_any W (hW.then q) (hK.then q))
  have CL := Lib.hid (fun W (q : Below w.heap.size w W) => longA_any A c l W ((hr.below q).more q.size) hl)
  have HR := Lib.hid hr
  have HW := Lib.hid hW
  have HK := Lib.hid hK
  clear hr hW hK
  rw [e1] at CL
  clear e1
  go_enter Tryd.func5, Tryd.ntmps5
  go_wp2_with (first
    | (go_at_call 21; ((with_reducible refine (CA.out _ hb).mono ?_); rintro e w1 ⟨rfl, k1⟩; have K1 := Lib.hid (bThen hb k1)))
    | (go_at_call 22; ((with_reducible refine (CL.out _ K1.out).mono ?_); rintro e w2 ⟨rfl, k2⟩; have K2 := Lib.hid (bThen K1.out k2))))
  go_ret
  exact ⟨rfl, K2.out⟩
theorem walked_walk_out {A : Option Addr} (m : Int) (l : List Act8) (c : Nat) (w : World) (hr : RdK actK w w.heap.size A l) (hl : l.length ≤ maxLen) (hW : Words w) (hK : Kinds w) (e1 : longA l = false) (ho : m < 1 ∨ 64 < m) :
    Calls Tryd.prog 5 #[.int .i64 m, .slice A l.length c] w fun e w' => e = .returned (.bool true) ∧ Below w.heap.size w w' := by
  have hb : Below w.heap.size w w := Below.refl _ _
  have CA := Lib.hid (fun W (q : Below w.heap.size w W) => awake_any W (hW.then q) (hK.then q))
  have CL := Lib.hid (fun W (q : Below w.heap.size w W) => longA_any A c l W ((hr.below q).more q.size) hl)
  have HR := Lib.hid hr
  have HW := Lib.hid hW
  have HK := Lib.hid hK
  clear hr hW hK
  rw [e1] at CL
  clear e1
  by_cases b0 : m < 1
  · clear ho
    go_enter Tryd.func5, Tryd.ntmps5
    go_wp2_with (first
      | (go_at_call 21; ((with_reducible refine (CA.out _ hb).mono ?_); rintro e w1 ⟨rfl, k1⟩; have K1 := Lib.hid (bThen hb k1)))
      | (go_at_call 22; ((with_reducible refine (CL.out _ K1.out).mono ?_); rintro e w2 ⟨rfl, k2⟩; have K2 := Lib.hid (bThen K1.out k2))))
    go_ret
    exact ⟨rfl, K2.out⟩
  · skip
    by_cases b1 : 64 < m
    · clear ho
      go_enter Tryd.func5, Tryd.ntmps5
      go_wp2_with (first
        | (go_at_call 21; ((with_reducible refine (CA.out _ hb).mono ?_); rintro e w1 ⟨rfl, k1⟩; have K1 := Lib.hid (bThen hb k1)))
        | (go_at_call 22; ((with_reducible refine (CL.out _ K1.out).mono ?_); rintro e w2 ⟨rfl, k2⟩; have K2 := Lib.hid (bThen K1.out k2))))
      go_ret
      exact ⟨rfl, K2.out⟩
    · exfalso; omega
theorem walked_walk_in {A : Option Addr} (m : Nat) (l : List Act8) (c : Nat) (w : World) (hr : RdK actK w w.heap.size A l) (hl : l.length ≤ maxLen) (hW : Words w) (hK : Kinds w) (e1 : longA l = false) (b0 : ¬ (m : Int) < 1) (b1 : ¬ (64 : Int) < m) :
    Calls Tryd.prog 5 #[.int .i64 m, .slice A l.length c] w fun e w' => e = .returned (.bool true) ∧ Below w.heap.size w w' := by
  have hb : Below w.heap.size w w := Below.refl _ _
  have CA := Lib.hid (fun W (q : Below w.heap.size w W) => awake_any W (hW.then q) (hK.then q))
  have CL := Lib.hid (fun W (q : Below w.heap.size w W) => longA_any A c l W ((hr.below q).more q.size) hl)
  have HR := Lib.hid hr
  have HW := Lib.hid hW
  have HK := Lib.hid hK
  clear hr hW hK
  rw [e1] at CL
  generalize hmn : m = n at *
  have hlo := longA_out e1
  have CP := Lib.hid (fun W (q : Below w.heap.size w W) => played_any n (by omega) (by omega) l c W (IX.RdK.more (IX.RdK.below HR.out q) q.size) hlo.1 hlo.2 (HW.out.then q) (HK.out.then q))
  clear e1 hlo hmn
  go_enter Tryd.func5, Tryd.ntmps5
  go_wp2_with (first
    | (go_at_call 21; ((with_reducible refine (CA.out _ hb).mono ?_); rintro e w1 ⟨rfl, k1⟩; have K1 := Lib.hid (bThen hb k1)))
    | (go_at_call 22; ((with_reducible refine (CL.out _ K1.out).mono ?_); rintro e w2 ⟨rfl, k2⟩; have K2 := Lib.hid (bThen K1.out k2)))
    | (go_at_call 23; ((with_reducible refine (CP.out w2 K2.out).mono ?_); rintro e w3 ⟨L, s, A', c', inn, rfl, fp, fl, hsn⟩; have TH3 := Lib.hid fp.h; have RI := Lib.hid (own_rd fp.o); have FL := Lib.hid fl; have HSN := Lib.hid hsn; have K3 := Lib.hid (bThen K2.out fp.h.b); have WFS := Lib.hid fp.h.t.wf; clear fp fl hsn; obtain ⟨mw, hmw⟩ : ∃ m, (walkL s).length = m := ⟨_, rfl⟩; have HMW := Lib.hid hmw; have hmw9 : mw ≤ 100000 := (by have := walk_len WFS.out; omega); have hin9 : inn.length ≤ 64 := (by have := in_len FL.out; have := WFS.out.ln; omega); have HMWL := Lib.hid hmw9; clear hmw))
    | (go_at_call 17; ((with_reducible refine (TH.walk TH3.out HMW.out).mono ?_); rintro e w4 ⟨A4, c4, rfl, o4, k4⟩; have O4 := Lib.hid o4; have K4 := Lib.hid (bThen K3.out k4); clear o4))
    | (go_at_call 24; ((with_reducible refine (named_form A4 c4 mw _ w4 (own_rd O4.out) HMW.out HMWL.out).mono ?_); rintro e w5 ⟨A5, c5, rfl, o5, k5⟩; have RW := Lib.hid (own_rd (O4.out.below k5)); have RN := Lib.hid (own_rd o5); have HCN : Hid (mw ≤ c5) := Lib.hid (own_cap o5 (by simpa [hs] using HMW.out)); have K5 := Lib.hid (bThen K4.out k5); have TH5 := Lib.hid ((TH3.out.then k4).then k5); have RI5 := Lib.hid ((RI.out.below (bThen k4 k5)).more (Nat.le_trans k4.size k5.size)); clear o5 O4)))
  go_loopw [10] (fun i wr => ∃ k : Nat, i = .int .i64 k ∧ k ≤ mw ∧ Below w5.heap.size w5 wr) (fun i _ => mw - (intOf i).toNat)
  case atStart => exact ⟨0, rfl, Nat.zero_le _, Below.refl _ _⟩
  case round =>
    obtain ⟨k, rfl, hk, kr⟩ := hrel
    by_cases hlt : k < mw
    · have i1 : (k : Int) < mw := by omega
      have hlw : k < (walkL s).length := by rw [HMW.out]; exact hlt
      obtain ⟨b, off, rfl, hbk, hcc⟩ := row_cells RW.out hlw
      have ROW := Lib.hid hcc
      obtain ⟨bn, offn, rfl, hcn⟩ := name_cell RN.out hlw
      have NAME := Lib.hid hcn
      obtain ⟨g1, g2, g3, g4⟩ := walked_at WFS.out hlw
      have CA1 := Lib.hid (fun W (q : Below w5.heap.size w5 W) => TH.at_ (TH5.out.then q) (walkL s)[k].handle (a := (walkL s)[k]) (b := true) g2 g1)
      obtain ⟨y, hy⟩ : ∃ y, obAt s (pb (walkL s)[k]) = y := ⟨_, rfl⟩
      obtain ⟨tp, htp⟩ : ∃ tp, there s (pb (walkL s)[k]) = tp := ⟨_, rfl⟩
      have CA2 := Lib.hid (fun W (q : Below w5.heap.size w5 W) => TH.at_ (TH5.out.then q) (walkL s)[k].parent (a := y) (b := tp) hy htp)
      have hlen : ((hs (walkL s)).take k).length = k := by simp [hs]; omega
      have CH1 := Lib.hid (fun W (q : Below w5.heap.size w5 W) => has_form (some ⟨bn, offn, none⟩) c5 k ((hs (walkL s)).take k) (walkL s)[k].handle W (rd_take ((RN.out.below q).more q.size) k) hlen (by have := HMWL.out; omega) (b := false) (decide_eq_false g3))
      have CH2 : Hid (tp = true → ∀ W (q : Below w5.heap.size w5 W), Calls Tryd.prog 26 #[.slice (some ⟨bn, offn, none⟩) k c5, .string (walkL s)[k].parent] W fun e w' => e = .returned (.bool true) ∧ W = w') := Lib.hid (fun ht W q => has_form (some ⟨bn, offn, none⟩) c5 k ((hs (walkL s)).take k) (walkL s)[k].parent W (rd_take ((RN.out.below q).more q.size) k) hlen (by have := HMWL.out; omega) (b := true) (decide_eq_true (g4 (htp.trans ht))))
      have SL : ∀ W, (Instr.slice 43 (.slice (some ⟨bn, offn, none⟩) mw c5) none (some (.int .i64 k)) none).run Tryd.prog W = .ok (.slice (some ⟨bn, offn, none⟩) k c5) W := fun W => IX.slice_toK strK (A := some ⟨bn, offn, none⟩) (n := mw) (c := c5) (p := k) (by omega) HCN.out W
      have KR := Lib.hid kr
      clear hcc hcn g1 g2 g3 g4 hy htp hlen kr
      generalize (walkL s)[k] = o at *
      clear hlw
      obtain ⟨ca0, ca1, ca2, ca3, ca4, ca5, ca6, ca7, ca8, ca9, ca10, ca11, ca12, ca13⟩ := ROW.out _ KR.out
      cases tp with
      | true =>
        have CH3 := Lib.hid (CH2.out rfl)
        clear CH2
        go_wp2_with (first
          | (go_at_call 9; ((with_reducible refine (CA1.out _ KR.out).mono ?_); rintro e w6 ⟨rfl, k6⟩; have K6 := Lib.hid (bAl (bThen KR.out k6) (.cells (obCells o) 23)); have M6 := Lib.hid (AtC.new w6 (obCells o) 23); clear ca0 ca1 ca2 ca3 ca4 ca5 ca6 ca7 ca8 ca9 ca10 ca11 ca12 ca13; obtain ⟨cd0, cd1, cd2, cd3, cd4, cd5, cd6, cd7, cd8, cd9, cd10, cd11, cd12, cd13⟩ := ROW.out _ K6.out))
          | (go_at_call 9; ((with_reducible refine (CA2.out _ K6.out).mono ?_); rintro e w7 ⟨rfl, k7⟩; have K7 := Lib.hid (bAl (bThen K6.out k7) (.cells (obCells y) 23)); have mc := ((M6.out.then k7).al (.cells (obCells y) 23)).c; clear cd0 cd1 cd2 cd3 cd4 cd5 cd6 cd7 cd8 cd9 cd10 cd11 cd12 cd13; obtain ⟨cf0, cf1, cf2, cf3, cf4, cf5, cf6, cf7, cf8, cf9, cf10, cf11, cf12, cf13⟩ := ROW.out _ K7.out; have nc := NAME.out _ K7.out)))
        go_quiet ((go_at_call 26; first | with_reducible exact Calls.quiet_of_same ((CH1.out _ (bDrew K7.out _)).mono fun _ _ h => ⟨h.1, h.2.symm⟩) | with_reducible exact Calls.quiet_of_same ((CH3.out _ (bDrew K7.out _)).mono fun _ _ h => ⟨h.1, h.2.symm⟩)))
        go_wp2
        go_roundw
        case rel => exact ⟨k + 1, by go_num, by omega, bDrew K7.out _⟩
        case measure => simp [intOf]; omega
      | false =>
        clear CH2
        go_wp2_with (first
          | (go_at_call 9; ((with_reducible refine (CA1.out _ KR.out).mono ?_); rintro e w6 ⟨rfl, k6⟩; have K6 := Lib.hid (bAl (bThen KR.out k6) (.cells (obCells o) 23)); have M6 := Lib.hid (AtC.new w6 (obCells o) 23); clear ca0 ca1 ca2 ca3 ca4 ca5 ca6 ca7 ca8 ca9 ca10 ca11 ca12 ca13; obtain ⟨cd0, cd1, cd2, cd3, cd4, cd5, cd6, cd7, cd8, cd9, cd10, cd11, cd12, cd13⟩ := ROW.out _ K6.out))
          | (go_at_call 9; ((with_reducible refine (CA2.out _ K6.out).mono ?_); rintro e w7 ⟨rfl, k7⟩; have K7 := Lib.hid (bAl (bThen K6.out k7) (.cells (obCells y) 23)); have mc := ((M6.out.then k7).al (.cells (obCells y) 23)).c; clear cd0 cd1 cd2 cd3 cd4 cd5 cd6 cd7 cd8 cd9 cd10 cd11 cd12 cd13; obtain ⟨cf0, cf1, cf2, cf3, cf4, cf5, cf6, cf7, cf8, cf9, cf10, cf11, cf12, cf13⟩ := ROW.out _ K7.out; have nc := NAME.out _ K7.out)))
        go_quiet ((go_at_call 26; first | with_reducible exact Calls.quiet_of_same ((CH1.out _ (bDrew K7.out _)).mono fun _ _ h => ⟨h.1, h.2.symm⟩) | with_reducible exact Calls.quiet_of_same ((CH3.out _ (bDrew K7.out _)).mono fun _ _ h => ⟨h.1, h.2.symm⟩)))
        go_wp2
        go_roundw
        case rel => exact ⟨k + 1, by go_num, by omega, bDrew K7.out _⟩
        case measure => simp [intOf]; omega
    · obtain rfl : k = mw := by omega
      have i1 : ¬ (k : Int) < k := by omega
      have KR := Lib.hid kr
      clear kr
      go_wp2
      go_loopw [15] (fun i wq => ∃ k : Nat, i = .int .i64 k ∧ k ≤ inn.length ∧ Below w5.heap.size w5 wq) (fun i _ => inn.length - (intOf i).toNat)
      case atStart => exact ⟨0, rfl, Nat.zero_le _, KR.out⟩
      case round =>
        obtain ⟨m2, rfl, hk2, kq⟩ := hrel
        by_cases hlt2 : m2 < inn.length
        · have j1 : (m2 : Int) < inn.length := by omega
          obtain ⟨b, off, rfl, hbk, hcc⟩ := row_cells RI5.out hlt2
          have ROW := Lib.hid hcc
          obtain ⟨g1, g2, g3⟩ := FL.out.at_ WFS.out (List.getElem_mem hlt2)
          have RING := walked_ring WFS.out g1
          rw [g2] at RING
          obtain ⟨ring, hring⟩ : ∃ r, there s (endP s (pb inn[m2]) (above s (TX.hb inn[m2]))) = r := ⟨_, rfl⟩
          rw [hring] at RING
          obtain ⟨nr, hnr⟩ : ∃ nr, (!ring) = nr := ⟨_, rfl⟩
          rw [hnr] at RING
          have q1 : (nr == ring) = false := by rw [← hnr]; cases ring <;> rfl
          have q2 : decide (nr = ring) = false := by rw [← hnr]; cases ring <;> rfl
          have q3 : ¬ nr = ring := by rw [← hnr]; cases ring <;> simp
          clear hnr
          obtain ⟨la, hla⟩ : ∃ la, (above s (TX.hb inn[m2])).length = la := ⟨_, rfl⟩
          have hla64 : la ≤ 64 := hla ▸ above_len WFS.out _
          have CAB := Lib.hid (fun W (q : Below w5.heap.size w5 W) => TH.above (TH5.out.then q) inn[m2].handle hla)
          have CHH := Lib.hid (fun W (q : Below w5.heap.size w5 W) => has_form A5 c5 k (hs (walkL s)) inn[m2].handle W ((RN.out.below q).more q.size) (by simpa [hs] using HMW.out) (by have := HMWL.out; omega) RING)
          have KQ := Lib.hid kq
          clear hcc g1 g2 g3 kq RING
          by_cases hl0 : la = 0
          · have hnil : above s (TX.hb inn[m2]) = [] := List.eq_nil_of_length_eq_zero (hla.trans hl0)
            rw [hnil] at hring
            have CAT := Lib.hid (fun W (q : Below w5.heap.size w5 W) => TH.at_ (TH5.out.then q) inn[m2].parent rfl hring)
            subst hl0
            clear hnil hring hla
            generalize inn[m2] = o at *
            generalize obAt s o.parent.data.toList = y at *
            obtain ⟨ca0, ca1, ca2, ca3, ca4, ca5, ca6, ca7, ca8, ca9, ca10, ca11, ca12, ca13⟩ := ROW.out _ KQ.out
            (go_wp2_with (first
              | (go_at_call 19; ((with_reducible refine (CAB.out _ KQ.out).mono ?_); rintro e w6 ⟨A6, c6, rfl, o6, k6⟩; have K6 := Lib.hid (bThen KQ.out k6); clear ca0 ca1 ca2 ca3 ca4 ca5 ca6 ca7 ca8 ca9 ca10 ca11 ca12 ca13; obtain ⟨cd0, cd1, cd2, cd3, cd4, cd5, cd6, cd7, cd8, cd9, cd10, cd11, cd12, cd13⟩ := ROW.out _ K6.out; have mt := (AtC.new w6 (obCells o) 23).c))
              | (go_at_call 9; ((with_reducible refine (CAT.out _ (bAl K6.out _)).mono ?_); rintro e w7 ⟨rfl, k7⟩; have K7 := Lib.hid (bAl (bThen (bAl K6.out _) k7) (.cells (obCells y) 23)); clear cd0 cd1 cd2 cd3 cd4 cd5 cd6 cd7 cd8 cd9 cd10 cd11 cd12 cd13 mt; obtain ⟨cf0, cf1, cf2, cf3, cf4, cf5, cf6, cf7, cf8, cf9, cf10, cf11, cf12, cf13⟩ := ROW.out _ K7.out))
              | (go_at_call 26; ((with_reducible refine (CHH.out _ K7.out).mono ?_); rintro e w8 ⟨rfl, rfl⟩)))
             go_roundw
             case rel => exact ⟨m2 + 1, by go_num, by omega, K7.out⟩
             case measure => simp [intOf]; omega)
          · have hp : 0 < (above s (TX.hb inn[m2])).length := by omega
            have hi : la - 1 < (above s (TX.hb inn[m2])).length := by omega
            have hne : above s (TX.hb inn[m2]) ≠ [] := by intro z; rw [z] at hp; simp at hp
            rw [endP_last _ _ hne, List.getLast_eq_getElem] at hring
            have hix : (above s (TX.hb inn[m2]))[(above s (TX.hb inn[m2])).length - 1]'(by omega) = (above s (TX.hb inn[m2]))[la - 1] := by congr 1; omega
            rw [hix] at hring
            have STR := Lib.hid (fun (W : World) A (h : RdK strK W W.heap.size A (above s (TX.hb inn[m2]))) => str_cell h hp)
            obtain ⟨u, hu⟩ : ∃ u, (above s (TX.hb inn[m2]))[la - 1] = u := ⟨_, rfl⟩
            have HU := Lib.hid hu
            rw [hu] at hring
            obtain ⟨t2, ht2⟩ : ∃ t2, obAt s u = t2 := ⟨_, rfl⟩
            rw [ht2] at hring
            have CA1 := Lib.hid (fun W (q : Below w5.heap.size w5 W) => TH.at_ (TH5.out.then q) ⟨u.toArray⟩ ht2 rfl)
            have CAT := Lib.hid (fun W (q : Below w5.heap.size w5 W) => TH.at_ (TH5.out.then q) t2.parent rfl hring)
            have la1 : (0 : Int) < la := by omega
            have la2 : (la : Int) ≤ 64 := by omega
            have la3 : (la : Int) - 1 < la := by omega
            have la4 : 0 ≤ (la : Int) - 1 := by omega
            have la5 : ((la : Int) - 1).toNat = la - 1 := by omega
            have HAB := Lib.hid hla
            clear hring hne hix ht2 hl0
            generalize there s u = tu at *
            generalize obAt s t2.parent.data.toList = y at *
            generalize inn[m2] = o at *
            obtain ⟨ca0, ca1, ca2, ca3, ca4, ca5, ca6, ca7, ca8, ca9, ca10, ca11, ca12, ca13⟩ := ROW.out _ KQ.out
            (go_wp2_with (first
              | (go_at_call 19; ((with_reducible refine (CAB.out _ KQ.out).mono ?_); rintro e w6 ⟨A6, c6, rfl, o6, k6⟩; obtain ⟨b6, off6, rfl, hs6⟩ := STR.out w6 A6 (own_rd o6); have K6 := Lib.hid (bThen KQ.out k6); clear ca0 ca1 ca2 ca3 ca4 ca5 ca6 ca7 ca8 ca9 ca10 ca11 ca12 ca13; obtain ⟨cd0, cd1, cd2, cd3, cd4, cd5, cd6, cd7, cd8, cd9, cd10, cd11, cd12, cd13⟩ := ROW.out _ K6.out; have sc := hs6 _ (bAl (Below.refl _ _) (.cells (obCells o) 23)) (la - 1) hi; rw [HU.out] at sc; clear hs6 o6))
              | (go_at_call 9; ((with_reducible refine (CA1.out _ (bAl K6.out _)).mono ?_); rintro e w7 ⟨rfl, k7⟩; have K7 := Lib.hid (bThen (bAl K6.out _) k7); have M7 := (AtC.new w6 (obCells o) 23).then k7; have mf7 := M7.f; have mc7 := M7.c; have lt7 := M7.lt; have M8 := AtC.fill M7 rfl (.string t2.handle) (.int .u8 t2.kind) (.string t2.parent) (.int .u8 t2.typ) (.string t2.ref) (.int .i64 t2.lo) (.int .i64 t2.hi) (.int .u8 t2.digits) (.bool t2.on) (.bool t2.has) (.int .i64 t2.value) (.int .i64 t2.low) (.int .i64 t2.high) (.int .u8 t2.assoc); have mc8 := M8.c; have K8 := Lib.hid (bFill K7.out (B := w6.heap.size) K6.out.size (.string t2.handle) (.int .u8 t2.kind) (.string t2.parent) (.int .u8 t2.typ) (.string t2.ref) (.int .i64 t2.lo) (.int .i64 t2.hi) (.int .u8 t2.digits) (.bool t2.on) (.bool t2.has) (.int .i64 t2.value) (.int .i64 t2.low) (.int .i64 t2.high) (.int .u8 t2.assoc)); clear cd0 cd1 cd2 cd3 cd4 cd5 cd6 cd7 cd8 cd9 cd10 cd11 cd12 cd13 sc M7))
              | (go_at_call 9; ((with_reducible refine (CAT.out _ K8.out).mono ?_); rintro e w9 ⟨rfl, k9⟩; have K9 := Lib.hid (bAl (bThen K8.out k9) (.cells (obCells y) 23)); clear mc8 mf7 mc7 lt7 M8; obtain ⟨cf0, cf1, cf2, cf3, cf4, cf5, cf6, cf7, cf8, cf9, cf10, cf11, cf12, cf13⟩ := ROW.out _ K9.out))
              | (go_at_call 26; ((with_reducible refine (CHH.out _ K9.out).mono ?_); rintro e w10 ⟨rfl, rfl⟩)))
             go_roundw
             case rel => exact ⟨m2 + 1, by go_num, by omega, K9.out⟩
             case measure => simp [intOf]; omega)
        · obtain rfl : m2 = inn.length := by omega
          have j1 : ¬ (inn.length : Int) < inn.length := by omega
          go_wp2
          go_ret
          exact ⟨rfl, (K5.out).trans (kq.mono K5.out.size)⟩
theorem walked_walk {A : Option Addr} (m : Int) (l : List Act8) (c : Nat) (w : World) (hr : RdK actK w w.heap.size A l) (hl : l.length ≤ maxLen) (hW : Words w) (hK : Kinds w) :
    Calls Tryd.prog 5 #[.int .i64 m, .slice A l.length c] w fun e w' => e = .returned (.bool true) ∧ Below w.heap.size w w' := by
  cases e1 : longA l with
  | true => exact walked_walk_long m l c w hr hl hW hK e1
  | false =>
    by_cases ho : m < 1 ∨ 64 < m
    · exact walked_walk_out m l c w hr hl hW hK e1 ho
    · obtain ⟨n, rfl⟩ : ∃ n : Nat, m = n := ⟨m.toNat, by omega⟩
      exact walked_walk_in n l c w hr hl hW hK e1 (by omega) (by omega)
end Go.Proofs.YtlfbjgeobibnhaaDoor.TX
