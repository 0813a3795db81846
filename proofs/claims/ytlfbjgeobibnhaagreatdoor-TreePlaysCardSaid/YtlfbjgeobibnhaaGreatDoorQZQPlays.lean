/-
  WALK: TreePlays.
-/
import Derived.Test.YtlfbjgeobibnhaaGreatDoorQZ14
import Derived.Test.YtlfbjgeobibnhaaGreatDoorQZQTells
namespace Go.Proofs.YtlfbjgeobibnhaaGreatDoor.TX
open Go.RowKit HL
open IX (ptr El cellsK cellsK_at OwnK IxAt Rw numOf mayS strK RdK keys)
set_option maxRecDepth 100000
set_option linter.unusedVariables false
set_option linter.unusedSimpArgs false
theorem RT.base {w : World} {b0 b1 X BT BL : Nat} {s : Sl} (h : RT w b0 X BT BL s) (k : b1 ≤ b0) : RT w b1 X BT BL s := { h with b1 := Nat.le_trans k h.b1, b2 := Nat.le_trans k h.b2, b3 := Nat.le_trans k h.b3 }
theorem two_new {w w1 w2 : World} {L : Lay} {X BT BL : Nat} {s : Sl} (t : Tree w1 w.heap.size L s) (n0 : L.n = 0) (k1 : Below w.heap.size w w1) (r : RT w2 w1.heap.size X BT BL s) (k2 : Below w1.heap.size w1 w2) : Two w w2 L X BT BL s 0 := by
  have new : ∀ B, w1.heap.size ≤ B → L.g B = .other := fun B hB => by
    cases q : L.g B with
    | other => rfl
    | _ => have := (t.t.lt B (by rw [q]; simp)).2; omega
  exact ⟨t.then k2, bThen k1 k2, by omega, r.base k1.size, new _ r.b1, new _ r.b2, new _ r.b3⟩
set_option maxHeartbeats 16000000
theorem plays_in {A : Option Addr} (n : Nat) (hn1 : 1 ≤ n) (hn2 : n ≤ 64) (l : List Act8) (c : Nat) (x : ByteArray) (w : World) (hr : RdK actK w w.heap.size A l) (hl : l.length ≤ maxLen) (hW : Words w) (hK : Kinds w) (e1 : longA l = false) (hx : x.size ≤ 100) :
    Calls Tryz.prog 3 #[.int .i64 n, .slice A l.length c, .string x] w fun e w' => e = .returned (.bool true) ∧ Below w.heap.size w w' := by
  have hb : Below w.heap.size w w := Below.refl _ _
  have CL := Lib.hid (longA_any A c l w hr hl)
  rw [e1] at CL
  have HLO := Lib.hid (longA_out e1)
  have HR := Lib.hid hr
  have HW := Lib.hid hW
  have HK := Lib.hid hK
  have HX := Lib.hid hx
  have i0 : ¬ (100 : Int) < x.size := by omega
  have l150 : l.length ≤ 150 := HLO.out.1
  have CN := Lib.hid (fun W => TX.new_yes n W hn1 hn2)
  have CrN := Lib.hid (fun W => rNew_yes n W hn1 hn2)
  clear hr hl hW hK e1 hx
  go_enter Tryz.func3, Tryz.ntmps3
  go_wp2_with (first
    | (go_at_call 5; ((with_reducible refine CL.out.mono ?_); rintro e w1 ⟨rfl, k1⟩; have K1 := Lib.hid k1; clear k1))
    | (go_at_call 6; ((with_reducible refine (CN.out _).mono ?_); rintro e w2 ⟨L0, rfl, t2, n2, k2⟩))
    | (go_at_call 7; ((with_reducible refine (CrN.out _).mono ?_); rintro e w3 ⟨X, BT, BL, rfl, r3, k3⟩; have T3 := Lib.hid (two_new t2 n2 k2 r3 k3); clear t2 n2 k2 r3 k3)))
  go_loopw [11] (fun i wr => ∃ (k : Nat) (L : Lay) (s : Sl), i = .int .i64 k ∧ k ≤ l.length ∧ Two w1 wr L X BT BL s (2 * k) ∧ L.T = L0.T) (fun i _ => l.length - (intOf i).toNat)
  case atStart => exact ⟨0, L0, freeS n, rfl, Nat.zero_le _, T3.out, rfl⟩
  case round =>
    obtain ⟨k, L, s, rfl, hk, hT, hLT⟩ := hrel
    have TT := Lib.hid hT
    have HLT := Lib.hid hLT
    clear T3
    by_cases hlt : k < l.length
    · have i1 : (k : Int) < l.length := by omega
      have HB : Hid (∀ W, Below w1.heap.size w1 W → Below w.heap.size w W) := Lib.hid (fun W q => K1.out.trans (q.mono K1.out.size))
      obtain ⟨b, off, rfl, hbk, hc⟩ := acts_at (HR.out.below (HB.out _ hT.b)) (by omega)
      obtain ⟨q0, q1, q2, q3, q4, q5, q6, q7, q8, q9, q10, q11, q12, q13, q14⟩ := hc k _ (List.getElem?_eq_getElem hlt)
      have CC : Hid (∀ W, Below w.heap.size w W → W.cell? ⟨b, off + k * 15 + 1, none⟩ = some (.string l[k].o.handle)) := Lib.hid (fun W q => by
        obtain ⟨b', off', e', _, hc'⟩ := acts_at (HR.out.below q) (by omega)
        cases e'
        exact (hc' k _ (List.getElem?_eq_getElem hlt)).2.1)
      have hxl := HLO.out.2 _ (List.getElem_mem hlt)
      have CA := act_any hT (HW.out.then K1.out) (HK.out.then K1.out) l[k] hxl (by omega)
      rw [hLT] at CA
      have CA := Lib.hid CA
      have hzz := (longB_out hxl).1
      clear hc hxl hT hLT
      generalize l[k] = y at *
      go_wp2_with (first
        | (go_at_call 8; ((with_reducible refine CA.out.mono ?_); rintro e w4 ⟨L4, rfl, t4, e4⟩; have T4 := Lib.hid t4; have E4 := Lib.hid e4; clear q0 q1 q2 q3 q4 q5 q6 q7 q8 q9 q10 q11 q12 q13 q14 e4; have q1 := CC.out _ (HB.out _ t4.b); have CT := tells_any t4 y.o.handle hzz; rw [E4.out] at CT; have CT := Lib.hid CT; clear t4))
        | (go_at_call 9; ((with_reducible refine CT.out.mono ?_); rintro e w5 ⟨rfl, k5⟩; have T5 := Lib.hid (T4.out.then k5); have CU := tells_any T5.out x HX.out; rw [E4.out] at CU; have CU := Lib.hid CU))
        | (go_at_call 9; ((with_reducible refine CU.out.mono ?_); rintro e w6 ⟨rfl, k6⟩; have T6 := Lib.hid (T5.out.then k6))))
      go_roundw
      case rel => exact ⟨k + 1, L4, _, by go_num, by omega, T6.out, E4.out⟩
      case measure => simp [intOf]; omega
    · obtain rfl : k = l.length := by omega
      have i1 : ¬ (l.length : Int) < l.length := by omega
      have wf := hT.t.wf
      obtain ⟨m, hm⟩ : ∃ m, (obsN s).length = m := ⟨_, rfl⟩
      obtain ⟨mw, hmw⟩ : ∃ m, (walkL s).length = m := ⟨_, rfl⟩
      have CA : Hid (∀ W, Below wr.heap.size wr W → Calls Tryz.prog 11 #[ptr L0.T] W fun e w' => ∃ A c, e = .returned (.slice A m c) ∧ OwnK obK w' W.heap.size (.slice A m c) (obsN s) ∧ Below W.heap.size W w') := Lib.hid (fun W q => by
        have := all_any (hT.then q).t
        rw [obsN_eq, hLT] at this
        exact formQ hm this)
      have CrA := Lib.hid (fun W (q : Below wr.heap.size wr W) => formQ hm (rAll_any (hT.then q).r))
      have CW : Hid (∀ W, Below wr.heap.size wr W → Calls Tryz.prog 13 #[ptr L0.T] W fun e w' => ∃ A c, e = .returned (.slice A mw c) ∧ OwnK obK w' W.heap.size (.slice A mw c) (walkL s) ∧ Below W.heap.size W w') := Lib.hid (fun W q => by
        have := walk_any (hT.then q).t
        rw [hLT] at this
        exact formQ hmw this)
      have CrW := Lib.hid (fun W (q : Below wr.heap.size wr W) => formQ hmw (rWalk_any (hT.then q).r))
      have HM := Lib.hid hm
      have HMW := Lib.hid hmw
      have HM6 : Hid (m ≤ 1000000) := Lib.hid (by have h1 := names_len s; have h2 := wf.ln; have h3 := obsN_len s; omega)
      have HMW6 : Hid (mw ≤ 1000000) := Lib.hid (by have := walk_len wf; omega)
      clear hT hLT hm hmw wf
      go_wp2_with (first
        | (go_at_call 11; ((with_reducible refine (CA.out _ (Below.refl _ _)).mono ?_); rintro e w4 ⟨A4, c4, rfl, o4, k4⟩; have O4 := Lib.hid o4; have K4 := Lib.hid k4; clear o4))
        | (go_at_call 12; ((with_reducible refine (CrA.out _ K4.out).mono ?_); rintro e w5 ⟨A5, c5, rfl, o5, k5⟩; have O5 := Lib.hid (rdQ o5); have P4 := Lib.hid (rdQ (O4.out.below k5)); have K5 := Lib.hid (bThen K4.out k5); clear o5))
        | (go_at_call 10; ((with_reducible refine (sameO_yes A4 A5 c4 c5 m _ _ P4.out O5.out HM.out HM6.out).mono ?_); rintro e w6 ⟨rfl, k6⟩; have K6 := Lib.hid (bThen K5.out k6)))
        | (go_at_call 13; ((with_reducible refine (CW.out _ K6.out).mono ?_); rintro e w7 ⟨A7, c7, rfl, o7, k7⟩; have O7 := Lib.hid o7; have K7 := Lib.hid (bThen K6.out k7); clear o7))
        | (go_at_call 14; ((with_reducible refine (CrW.out _ K7.out).mono ?_); rintro e w8 ⟨A8, c8, rfl, o8, k8⟩; have O8 := Lib.hid (rdQ o8); have P7 := Lib.hid (rdQ (O7.out.below k8)); have K8 := Lib.hid (bThen K7.out k8); clear o8))
        | (go_at_call 10; ((with_reducible refine (sameO_yes A7 A8 c7 c8 mw _ _ P7.out O8.out HMW.out HMW6.out).mono ?_); rintro e w9 ⟨rfl, k9⟩; have K9 := Lib.hid (bThen K8.out k9))))
      go_ret
      exact ⟨rfl, K1.out.trans ((bThen TT.out.b K9.out).mono K1.out.size)⟩
theorem plays_walk {A : Option Addr} (m : Int) (l : List Act8) (c : Nat) (x : ByteArray) (w : World) (hr : RdK actK w w.heap.size A l) (hl : l.length ≤ maxLen) (hW : Words w) (hK : Kinds w) :
    Calls Tryz.prog 3 #[.int .i64 m, .slice A l.length c, .string x] w fun e w' => e = .returned (.bool true) ∧ Below w.heap.size w w' := by
  have CL := Lib.hid (longA_any A c l w hr hl)
  cases e1 : longA l with
  | true =>
    rw [e1] at CL
    clear e1 hr hW hK
    go_enter Tryz.func3, Tryz.ntmps3
    go_wp2_with (go_at_call 5; ((with_reducible refine CL.out.mono ?_); rintro e w1 ⟨rfl, k1⟩))
    go_ret
    exact ⟨rfl, k1⟩
  | false =>
    by_cases hx : (100 : Int) < x.size
    · rw [e1] at CL
      clear e1 hr hW hK
      go_enter Tryz.func3, Tryz.ntmps3
      go_wp2_with (go_at_call 5; ((with_reducible refine CL.out.mono ?_); rintro e w1 ⟨rfl, k1⟩))
      go_ret
      exact ⟨rfl, k1⟩
    · by_cases hm : m < 1 ∨ 64 < m
      · rw [e1] at CL
        have CN := Lib.hid (fun W => TX.new_no m W hm)
        have CrN := Lib.hid (fun W => rNew_no m W hm)
        clear e1 hr hW hK hm
        go_enter Tryz.func3, Tryz.ntmps3
        go_wp2_with (first
          | (go_at_call 5; ((with_reducible refine CL.out.mono ?_); rintro e w1 ⟨rfl, k1⟩))
          | (go_at_call 6; ((with_reducible refine (CN.out _).mono ?_); rintro e w2 ⟨rfl, rfl⟩))
          | (go_at_call 7; ((with_reducible refine (CrN.out _).mono ?_); rintro e w3 ⟨rfl, rfl⟩)))
        go_ret
        exact ⟨rfl, k1⟩
      · obtain ⟨n, rfl⟩ : ∃ n : Nat, m = n := ⟨m.toNat, by omega⟩
        exact plays_in n (by omega) (by omega) l c x w hr hl hW hK e1 (by omega)
end Go.Proofs.YtlfbjgeobibnhaaGreatDoor.TX
