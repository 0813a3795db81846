/-
  WALK: the law WfApart.
-/
import Derived.Test.YthlalmoapbdccaaDoorWZWRenamed
namespace Go.Proofs.YthlalmoapbdccaaDoor.WX
open Go.RowKit HL
open IX (ptr El cellsK cellsK_at OwnK RdK strK)
set_option maxRecDepth 100000
set_option linter.unusedVariables false
set_option linter.unusedSimpArgs false

theorem place_in3 (i : Int) (n : Nat) (h0 : 0 < n) (hn : n ≤ 1000) : ∃ (u : Int) (k : Nat), IntKind.u64.wrap i = u ∧ 0 ≤ u ∧ (u % (n : Int)) = (k : Int) ∧ k < n := by
  obtain ⟨m, rfl⟩ : ∃ m, n = m + 1 := ⟨n - 1, by omega⟩
  obtain ⟨u, k, h1, h2, h3, h4⟩ := place_of i m (by omega)
  exact ⟨u, k, h1, h2, by rw [← h3]; push_cast; rfl, by omega⟩
abbrev qS : ByteArray := ⟨#[113]⟩
/-- The other list's objects are all well by themselves, as far as k. -/
noncomputable def shortB (l : List Ob) (k : Nat) : Bool := (l.take k).all fun o => faultP (ren qS o) true == 0
theorem short_next {l : List Ob} {k : Nat} (hk : k < l.length) : shortB l (k + 1) = (shortB l k && (faultP (ren qS l[k]) true == 0)) := by
  unfold shortB
  rw [List.take_succ_eq_append_getElem hk, List.all_append]; simp
theorem roots_next {l : List Ob} {k : Nat} (hk : k < l.length) : roots (l.take (k + 1)) = roots (l.take k) + if l[k].kind = 1 then 1 else 0 := by
  unfold roots
  rw [List.take_succ_eq_append_getElem hk, List.filter_append, List.length_append]
  congr 1
  by_cases q : l[k].kind = 1
  · rw [if_pos q, List.filter_cons_of_pos (by simpa using q)]; rfl
  · rw [if_neg q, List.filter_cons_of_neg (by simpa using q)]; rfl
theorem roots_le (l : List Ob) (k : Nat) : roots (l.take k) ≤ k := by
  unfold roots
  refine Nat.le_trans (List.length_filter_le _ _) ?_
  rw [List.length_take]; omega
theorem fine_ren {o : Ob} (h : Fine o) (hz : longB o = false) : Fine (ren qS o) := by
  obtain ⟨z1, z2, z3⟩ := longB_out hz
  have e : ∀ s : ByteArray, s.size ≤ 100 → (s ++ qS).size ≤ maxLen := fun s hs => by
    rw [ByteArray.size_append]
    have : qS.size = 1 := rfl
    unfold maxLen; omega
  refine ⟨e _ z1, h.kind, ?_, h.typ, ?_, h.lo, h.hi, h.digits, h.value, h.low, h.high, h.assoc⟩
  · unfold ren; simp only; split
    · exact h.parent
    · exact e _ z2
  · unfold ren; simp only; split
    · exact h.ref
    · exact e _ z3
noncomputable def partO (l : List Ob) (d : Bs) (k : Nat) : List Ob := (l.take k).filter fun o => decide (climbO (findO l) 8 (hb o) = some d)
theorem part_next {l : List Ob} {d : Bs} {k : Nat} (hk : k < l.length) : partO l d (k + 1) = partO l d k ++ if climbO (findO l) 8 (hb l[k]) = some d then [l[k]] else [] := by
  unfold partO
  rw [List.take_succ_eq_append_getElem hk, List.filter_append]
  congr 1
  by_cases q : climbO (findO l) 8 (hb l[k]) = some d
  · rw [if_pos q, List.filter_cons_of_pos (by simpa using q)]; rfl
  · rw [if_neg q, List.filter_cons_of_neg (by simpa using q)]; rfl
theorem part_all (l : List Ob) (d : Bs) : partO l d l.length = ofMds l d := by unfold partO ofMds; rw [List.take_length]
theorem part_len (l : List Ob) (d : Bs) (k : Nat) : (partO l d k).length ≤ k := by
  unfold partO
  refine Nat.le_trans (List.length_filter_le _ _) ?_
  rw [List.length_take]; omega
theorem txt_dec (a b : Bs) : ((txt (some a)).toList == (txt (some b)).toList) = decide (some a = some b) := by
  rw [ByteArray.toList_eq, ByteArray.toList_eq, Bool.eq_iff_iff]
  simp [txt]
set_option maxHeartbeats 64000000 in
theorem apart_walk (A : Option Addr) (c : Nat) (l : List Ob) (iw : Int) (w : World) (h1 : RdK obK w w.heap.size A l) (n1 : l.length ≤ maxLen) (hF : ∀ o ∈ l, Fine o) (ht : Tables w ∧ Kinds w) :
    Calls Tryd.prog 6 #[.slice A l.length c, .int .i64 iw] w fun e w' => e = .returned (.bool true) ∧ Below w.heap.size w w' := by
  have CA := Lib.hid (awake9_any w ht)
  have L1 := Lib.hid (fun W (k : Below w.heap.size w W) => longO_any A c l W ((h1.below k).more k.size) n1)
  cases e1 : longO l with
  | true =>
    rw [e1] at L1
    clear e1 h1 hF ht
    go_enter Tryd.func6, Tryd.ntmps6
    go_wp2_with (first
      | (go_at_call 17; ((with_reducible refine CA.out.mono ?_); rintro e w1 ⟨rfl, k1⟩))
      | (go_at_call 9; ((with_reducible refine (L1.out _ k1).mono ?_); rintro e w2 ⟨rfl, k2⟩)))
    go_ret
    exact ⟨rfl, bThen k1 k2⟩
  | false =>
    obtain ⟨nl, hz⟩ := longO_out e1
    have hM : ∀ W, Below w.heap.size w W → MeetsL l W := fun W q => (meetsL_of (by omega) hF ht).then q
    have CW := Lib.hid (fun W (q : Below w.heap.size w W) => well_any (A := A) l c W ((h1.below q).more q.size) (hM W q))
    cases e2 : (verR l).2 == 0 with
    | false =>
      rw [e1] at L1
      rw [e2] at CW
      clear e1 e2 h1 hF ht
      go_enter Tryd.func6, Tryd.ntmps6
      go_wp2_with (first
        | (go_at_call 17; ((with_reducible refine CA.out.mono ?_); rintro e w1 ⟨rfl, k1⟩))
        | (go_at_call 9; ((with_reducible refine (L1.out _ k1).mono ?_); rintro e w2 ⟨rfl, q2⟩; have k2 := bThen k1 q2))
        | (go_at_call 13; ((with_reducible refine (CW.out _ k2).mono ?_); rintro e w3 ⟨rfl, q3⟩; have k3 := bThen k2 q3)))
      go_ret
      exact ⟨rfl, k3⟩
    | true =>
      rw [e1] at L1
      rw [e2] at CW
      have HW : Wl l := wl_iff.1 (by simpa using e2)
      have HWL := Lib.hid HW
      have H1 := Lib.hid h1
      have HT := Lib.hid (fun W (k : Below w.heap.size w W) => tabs_then ht k)
      have HF := Lib.hid hF
      have HZ := Lib.hid hz
      have hFR : ∀ o ∈ l.map (ren qS), Fine o := fun y hy => by
        obtain ⟨x, hx, rfl⟩ := List.mem_map.1 hy
        exact fine_ren (hF x hx) (hz x hx)
      have HFR := Lib.hid hFR
      have CN := Lib.hid (fun W (q : Below w.heap.size w W) => renamed_any (A := A) l c qS W ((h1.below q).more q.size) nl (by decide) hz)
      have CM := Lib.hid (fun o (ho : o ∈ l.map (ren qS)) W (q : Below w.heap.size w W) => objMay_any (o := o) ((meetsL_of (l := l.map (ren qS)) (by rw [List.length_map]; omega) hFR ht).then q |>.o o ho))
      have CF := Lib.hid (fun x W (q : Below w.heap.size w W) => find_any (A := A) l c x W ((h1.below q).more q.size) (by omega))
      have CD := Lib.hid (fun x W (q : Below w.heap.size w W) => mds_any (A := A) l c x W ((h1.below q).more q.size) (by omega))
      clear e1 e2 h1 hF ht hM HW n1 hz hFR
      go_enter Tryd.func6, Tryd.ntmps6
      go_wp2_with (first
        | (go_at_call 17; ((with_reducible refine CA.out.mono ?_); rintro e w1 ⟨rfl, k1⟩))
        | (go_at_call 9; ((with_reducible refine (L1.out _ k1).mono ?_); rintro e w2 ⟨rfl, q2⟩; have k2 := bThen k1 q2))
        | (go_at_call 13; ((with_reducible refine (CW.out _ k2).mono ?_); rintro e w3 ⟨rfl, q3⟩; have K3 := Lib.hid (bThen k2 q3)))
        | (go_at_call 18; ((with_reducible refine (CN.out _ K3.out).mono ?_); rintro e w4 ⟨v4, rfl, o4, q4⟩; have O4 := Lib.hid o4; have K4 := Lib.hid (bThen K3.out q4))))
      obtain ⟨A4, c4, e4, r4, _, _⟩ := O4.out.form
      rw [List.length_map] at e4
      subst e4
      have R4 := Lib.hid r4
      clear CA CW L1 CN r4 O4
      go_loopw [6, 7, 8] (fun sv mv v wr => ∃ j : Nat, sv = .bool (shortB l j) ∧ mv = .int .i64 (roots (l.take j) : Nat) ∧ v = .int .i64 j ∧ j ≤ l.length ∧ Hid (∀ o ∈ l.take j, findO l (hb o ++ qS.data.toList) = none) ∧ Below w4.heap.size w4 wr) (fun _ _ v _ => l.length - (intOf v).toNat)
      case atStart => exact ⟨0, rfl, rfl, rfl, Nat.zero_le _, Lib.hid (fun o h => by simp at h), Below.refl _ _⟩
      case round =>
        obtain ⟨j, rfl, rfl, rfl, hj, HN, k5⟩ := hrel
        have K5 := Lib.hid k5
        by_cases hlt : j < l.length
        · have i1 : (j : Int) < (l.length : Int) := by omega
          obtain ⟨b, off, rfl, hbk, hc⟩ := obs_at (H1.out.below (bThen K4.out k5)) (by omega)
          obtain ⟨b', off', rfl, hbk', hc'⟩ := obs_at (R4.out.below k5) (by rw [List.length_map]; omega)
          have hgy : (l.map (ren qS))[j]? = some (ren qS l[j]) := by rw [List.getElem?_map, List.getElem?_eq_getElem hlt]; rfl
          obtain ⟨_, ck, _⟩ := hc j _ (List.getElem?_eq_getElem hlt)
          obtain ⟨c0, c1, c2, c3, c4, c5, c6, c7, c8, c9, c10, c11, c12, c13⟩ := hc' j _ hgy
          have SN := Lib.hid (short_next hlt)
          have RN := Lib.hid (roots_next hlt)
          have hrl := roots_le l j
          have KW := Lib.hid (bThen K4.out k5)
          have CMy := Lib.hid (fun W (q : Below w.heap.size w W) => CM.out (ren qS l[j]) (List.mem_of_getElem? hgy) W q)
          have CFy := Lib.hid (fun W (q : Below w.heap.size w W) => CF.out (ren qS l[j]).handle W q)
          have HNN : Hid (findO l (hb (ren qS l[j])) = none → ∀ o ∈ l.take (j + 1), findO l (hb o ++ qS.data.toList) = none) := Lib.hid (fun e o ho => by
            rw [List.take_succ_eq_append_getElem hlt] at ho
            rcases List.mem_append.1 ho with q | q
            · exact HN.out o q
            · obtain rfl : o = l[j] := by simpa using q
              rw [← ren_h]; exact e)
          have DK := Lib.hid (fun W (q : Below wr.heap.size wr W) => (q.cell (p := ⟨b, off + j * 14 + 1, none⟩) (Nat.lt_of_lt_of_le hbk KW.out.size)).trans ck)
          have DH := Lib.hid (fun W (q : Below wr.heap.size wr W) => (q.cell (p := ⟨b', off' + j * 14, none⟩) (Nat.lt_of_lt_of_le hbk' k5.size)).trans c0)
          have hrw : IntKind.i64.wrap ((roots (l.take j) : Int) + 1) = (roots (l.take j) : Int) + 1 := IntWalk.i64_in _ (by omega)
          rw [show (ren qS l[j]).handle.data.toList = hb (ren qS l[j]) from rfl] at CFy
          clear hc hc' hgy ck k5
          generalize roots (l.take j) = rt at *
          generalize shortB l j = pv at *
          generalize faultP (ren qS l[j]) true = fy at *
          generalize findO l (hb (ren qS l[j])) = fo at *
          generalize l[j].kind = kd at *
          generalize ren qS l[j] = y at *
          cases fo with
          | some t =>
            cases pv with
            | true =>
              go_wp2_with (first
                | (go_at_call 19; ((with_reducible refine (CMy.out _ KW.out).mono ?_); rintro e w6 ⟨rfl, q6⟩; have K6 := Lib.hid (bThen KW.out q6); have d0 := DH.out _ q6; clear c0))
                | (go_at_call 20; ((with_reducible refine (CFy.out _ K6.out).mono ?_); rintro e w7 ⟨rfl, q7⟩; have K7 := Lib.hid (bAl (bThen K6.out q7) (.cells (obCells (obO (some t))) 31)))))
              go_ret
              exact ⟨rfl, K7.out⟩
            | false =>
              go_wp2_with (go_at_call 20; ((with_reducible refine (CFy.out _ KW.out).mono ?_); rintro e w7 ⟨rfl, q7⟩; have K7 := Lib.hid (bAl (bThen KW.out q7) (.cells (obCells (obO (some t))) 31))))
              go_ret
              exact ⟨rfl, K7.out⟩
          | none =>
            have HN2 := Lib.hid (HNN.out rfl)
            cases pv with
            | true =>
              by_cases hkd : kd = 1
              · skip
                have ik2 : ((kd : Int) == 1) = true := by simp; omega
                have RN2 : Hid (((roots (l.take (j + 1)) : Nat) : Int) = (rt : Int) + 1) := Lib.hid (by rw [RN.out, if_pos hkd]; push_cast; rfl)
                clear hkd
                go_wp2_with (first
                  | (go_at_call 19; ((with_reducible refine (CMy.out _ KW.out).mono ?_); rintro e w6 ⟨rfl, q6⟩; have K6 := Lib.hid (bThen KW.out q6); have Q6 := Lib.hid q6; have d0 := DH.out _ q6; clear c0))
                  | (go_at_call 20; ((with_reducible refine (CFy.out _ K6.out).mono ?_); rintro e w7 ⟨rfl, q7⟩; have K7 := Lib.hid (bAl (bThen Q6.out q7) (.cells (obCells (obO none)) 31)); have dk := DK.out _ K7.out)))
                go_roundw
                case rel => exact ⟨j + 1, by rw [SN.out]; rfl, by rw [RN2.out], by go_num, by omega, HN2, bThen K5.out K7.out⟩
                case measure => simp [intOf]; omega
              · skip
                have ik2 : ((kd : Int) == 1) = false := by simp; omega
                have RN2 : Hid (((roots (l.take (j + 1)) : Nat) : Int) = (rt : Int)) := Lib.hid (by rw [RN.out, if_neg hkd]; rfl)
                clear hkd
                go_wp2_with (first
                  | (go_at_call 19; ((with_reducible refine (CMy.out _ KW.out).mono ?_); rintro e w6 ⟨rfl, q6⟩; have K6 := Lib.hid (bThen KW.out q6); have Q6 := Lib.hid q6; have d0 := DH.out _ q6; clear c0))
                  | (go_at_call 20; ((with_reducible refine (CFy.out _ K6.out).mono ?_); rintro e w7 ⟨rfl, q7⟩; have K7 := Lib.hid (bAl (bThen Q6.out q7) (.cells (obCells (obO none)) 31)); have dk := DK.out _ K7.out)))
                go_roundw
                case rel => exact ⟨j + 1, by rw [SN.out]; rfl, by rw [RN2.out], by go_num, by omega, HN2, bThen K5.out K7.out⟩
                case measure => simp [intOf]; omega
            | false =>
              by_cases hkd : kd = 1
              · skip
                have ik2 : ((kd : Int) == 1) = true := by simp; omega
                have RN2 : Hid (((roots (l.take (j + 1)) : Nat) : Int) = (rt : Int) + 1) := Lib.hid (by rw [RN.out, if_pos hkd]; push_cast; rfl)
                clear hkd
                go_wp2_with (go_at_call 20; ((with_reducible refine (CFy.out _ KW.out).mono ?_); rintro e w7 ⟨rfl, q7⟩; have K7 := Lib.hid (bAl q7 (.cells (obCells (obO none)) 31)); have dk := DK.out _ K7.out))
                go_roundw
                case rel => exact ⟨j + 1, by rw [SN.out]; rfl, by rw [RN2.out], by go_num, by omega, HN2, bThen K5.out K7.out⟩
                case measure => simp [intOf]; omega
              · skip
                have ik2 : ((kd : Int) == 1) = false := by simp; omega
                have RN2 : Hid (((roots (l.take (j + 1)) : Nat) : Int) = (rt : Int)) := Lib.hid (by rw [RN.out, if_neg hkd]; rfl)
                clear hkd
                go_wp2_with (go_at_call 20; ((with_reducible refine (CFy.out _ KW.out).mono ?_); rintro e w7 ⟨rfl, q7⟩; have K7 := Lib.hid (bAl q7 (.cells (obCells (obO none)) 31)); have dk := DK.out _ K7.out))
                go_roundw
                case rel => exact ⟨j + 1, by rw [SN.out]; rfl, by rw [RN2.out], by go_num, by omega, HN2, bThen K5.out K7.out⟩
                case measure => simp [intOf]; omega
        · obtain rfl : j = l.length := by omega
          have i1 : ¬ (l.length : Int) < (l.length : Int) := by omega
          have HRT : Hid (roots (l.take l.length) = roots l) := Lib.hid (by rw [List.take_length])
          have HNO : Hid (∀ o ∈ l, findO l (hb o ++ qS.data.toList) = none) := Lib.hid (fun o ho => HN.out o (by rwa [List.take_length]))
          have hrl := roots_le l l.length
          have HRL := Lib.hid hrl
          have hbl : (l ++ l.map (ren qS)).length = l.length + l.length := by rw [List.length_append, List.length_map]
          have HBL := Lib.hid hbl
          have CB := Lib.hid (fun W (q : Below w.heap.size w W) A' c' (r : RdK obK W W.heap.size A' (l ++ l.map (ren qS))) => show Calls Tryd.prog 13 #[.slice A' (l.length + l.length) c'] W fun e w' => e = .returned (.bool ((verR (l ++ l.map (ren qS))).2 == 0)) ∧ Below W.heap.size W w' from by
            have := well_any (l ++ l.map (ren qS)) c' W r (meetsL_of (by rw [hbl]; omega) (fun o ho => (List.mem_append.1 ho).elim (HF.out o) (HFR.out o)) (HT.out W q))
            rwa [hbl] at this)
          have HVB : Hid (shortB l l.length = true → ((verR (l ++ l.map (ren qS))).2 == 0) = decide ((2 : Int) * (roots l : Int) ≤ 4)) := Lib.hid (fun hs => by
            have h1 : ∀ o ∈ l, faultP (ren qS o) true = 0 := fun o ho => by
              unfold shortB at hs
              rw [List.take_length] at hs
              simpa using List.all_eq_true.1 hs o ho
            have h2 := both_wl HWL.out h1 HNO.out
            rw [Bool.eq_iff_iff, beq_iff_eq, decide_eq_true_iff, wl_iff, h2]
            omega)
          rw [HRT.out] at *
          have hmw : IntKind.i64.wrap ((2 : Int) * (roots l : Int)) = (2 : Int) * (roots l : Int) := IntWalk.i64_in _ (by omega)
          have KW := Lib.hid (bThen K4.out k5)
          have O0 := Lib.hid (OwnK.lit (K := obK) wr wr.heap.size (Nat.le_refl _))
          have ka := bAl KW.out (.cells #[] 31)
          have KA := Lib.hid ka
          have kb := bAl k5 (.cells #[] 31)
          have KB := Lib.hid kb
          have hd1 : ([] : List Ob).length + l.length ≤ 1000000 := by simp; omega
          have hd2 : wr.heap.size ≤ (wr.alloc (.cells #[] 31)).heap.size := by simp
          have RL1 := Lib.hid ((H1.out.below ka).more ka.size)
          have RM := Lib.hid R4.out
          have HML : Hid ((l.map (ren qS)).length = l.length) := Lib.hid (List.length_map _)
          have hws := Nat.le_trans K4.out.size k5.size
          clear HN ka kb k5 CM hbl HRT
          generalize hrl' : roots l = rt at *
          clear hrl'
          generalize hsh : shortB l l.length = sh at *
          clear hsh
          generalize ((verR (l ++ l.map (ren qS))).2 == 0) = vb at *
          go_wp2_with (at_builtin; refine IX.wpList_spreadK obK rfl (.tmp 63) (.tmp 64) rfl wr.heap.size _ [] rfl O0.out (wr.alloc (.cells #[] 31)).heap.size A l.length c l rfl rfl RL1.out hd1 hd2 ?_)
          intro x1 w6 o6 g6 _
          have K6 := Lib.hid (KA.out.grown g6 KA.out.size (fun i hi => by simp [Value.ownBlock] at hi; omega))
          have KB6 := Lib.hid (KB.out.grown g6 KB.out.size (fun i hi => by have := K5.out.size; simp [Value.ownBlock] at hi; omega))
          have hz6 : wr.heap.size ≤ w6.heap.size := by have := g6.size; simp at this; omega
          have hd3 : l.length + (l.map (ren qS)).length ≤ 1000000 := by have := HML.out; omega
          have RM2 := Lib.hid (RM.out.below KB6.out)
          have O6 := Lib.hid o6
          clear o6 g6 RL1 O0
          go_wp2_with (at_builtin; refine IX.wpList_spreadK obK rfl (.tmp 65) (.tmp 66) rfl wr.heap.size x1 l rfl O6.out w4.heap.size A4 l.length c4 (l.map (ren qS)) rfl HML.out RM2.out hd3 hz6 ?_)
          intro x2 w7 o7 g7 _
          have K7 := Lib.hid (K6.out.grown g7 K6.out.size (fun i hi => by have := (O6.out.lt i hi).1; omega))
          have O7 := Lib.hid o7
          clear o7 g7 RM2
          obtain ⟨A7, c7, e7, r7, _, _⟩ := O7.out.form
          rw [HBL.out] at e7
          subst e7
          have R7 := Lib.hid r7
          clear r7 O7 O6 HML RM KA KB KB6 K6 hz6 hd1 hd2 hd3 KW hws HNO R4 HFR
          by_cases h0 : l.length = 0
          · have i0 : ((l.length : Int) == 0) = true := by rw [h0]; rfl
            clear h0
            cases sh with
            | true =>
              have hvb := HVB.out rfl
              rw [hvb] at CB
              clear hvb HVB
              go_wp2_with (go_at_call 13; ((with_reducible refine (CB.out _ K7.out _ _ R7.out).mono ?_); rintro e w8 ⟨rfl, q8⟩; have K7 := Lib.hid (bThen K7.out q8)))
              go_ret
              exact ⟨rfl, K7.out⟩
            | false =>
              clear HVB
              go_wp2
              go_ret
              exact ⟨rfl, K7.out⟩
          · have i0 : ((l.length : Int) == 0) = false := by rw [beq_eq_false_iff_ne]; omega
            obtain ⟨u, k, hu, hu0, hk, hkl⟩ := place_in3 iw l.length (by omega) (by omega)
            have hw1 : IntKind.u64.wrap (l.length : Int) = (l.length : Int) := IntWalk.u64_in _ (by omega)
            have hw3 : IntKind.i64.wrap (k : Int) = (k : Int) := IntWalk.i64_in _ (by omega)
            have j1 : (k : Int) < (l.length : Int) := by omega
            have j2 : (0 : Int) ≤ (k : Int) := by omega
            obtain ⟨dd, hd, hdm, _⟩ := mds_some HWL.out (List.getElem_mem hkl)
            obtain ⟨d, hdd⟩ : ∃ d, hb dd = d := ⟨_, rfl⟩
            rw [hdd] at hd
            have HIN : Hid (0 < (ofMds l d).length) := Lib.hid (List.length_pos_of_mem (ofMds_mem.2 ⟨List.getElem_mem hkl, hd⟩))
            have CDk : Hid (∀ W, Below w.heap.size w W → Calls Tryd.prog 21 #[.slice A l.length c, .string l[k].handle] W fun e w' => e = .returned (.tuple #[.string (txt (some d)), .bool true]) ∧ Below W.heap.size W w') := Lib.hid (fun W q => by
              have := CD.out l[k].handle W q
              rw [show climbO (findO l) 8 l[k].handle.data.toList = some d from hd] at this
              exact this)
            have CWo := Lib.hid (fun W (q : Below w.heap.size w W) A' c' n (hn : (ofMds l d).length = n) (r : RdK obK W W.heap.size A' (ofMds l d)) => show Calls Tryd.prog 13 #[.slice A' n c'] W fun e w' => e = .returned (.bool true) ∧ Below W.heap.size W w' from by
              subst hn
              have hlen : (ofMds l d).length ≤ l.length := by unfold ofMds; exact List.length_filter_le _ _
              have := well_any (ofMds l d) c' W r (meetsL_of (by omega) (fun o ho => HF.out o (ofMds_mem.1 ho).1) (HT.out W q))
              rw [wl_iff.2 (ofMds_wl HWL.out d)] at this
              exact this)
            obtain ⟨b, off, rfl, hbk, hc⟩ := obs_at (H1.out.below K7.out) (by omega)
            obtain ⟨c0, _⟩ := hc k _ (List.getElem?_eq_getElem hkl)
            have HKS := Lib.hid K7.out.size
            have DK := Lib.hid (fun W (q : Below w7.heap.size w7 W) => (q.cell (p := ⟨b, off + k * 14, none⟩) (Nat.lt_of_lt_of_le hbk K7.out.size)).trans c0)
            clear hd hdm hdd hc hbk h0
            generalize l[k] = ok at *
            cases sh with
            | true =>
              have hvb := HVB.out rfl
              rw [hvb] at CB
              clear hvb HVB
              go_wp2_with (first
                | (go_at_call 13; ((with_reducible refine (CB.out _ K7.out _ _ R7.out).mono ?_); rintro e w8 ⟨rfl, q8⟩; have K8 := Lib.hid (bThen K7.out q8); have d0 := DK.out _ q8; clear c0))
                | (go_at_call 21; ((with_reducible refine (CDk.out _ K8.out).mono ?_); rintro e w9 ⟨rfl, q9⟩; have K9 := Lib.hid (bThen K8.out q9))))
              clear CDk DK R7 CB
              go_loopw [14, 15] (fun ov v wr => ∃ j : Nat, v = .int .i64 j ∧ j ≤ l.length ∧ Hid (OwnK obK wr w.heap.size ov (partO l d j)) ∧ Below w.heap.size w wr) (fun _ v _ => l.length - (intOf v).toNat)
              case atStart => exact ⟨0, rfl, Nat.zero_le _, Lib.hid (OwnK.nil_ obK _ _), K9.out⟩
              case round =>
                obtain ⟨j, rfl, hj, HO, k10⟩ := hrel
                have K10 := Lib.hid k10
                by_cases hjl : j < l.length
                · have i2 : (j : Int) < (l.length : Int) := by omega
                  obtain ⟨b1, off1, e1, hbk1, hc1⟩ := obs_at (H1.out.below k10) (by omega)
                  injection e1 with e1
                  injection e1 with e2 e3
                  subst e2 e3
                  obtain ⟨g0, _⟩ := hc1 j _ (List.getElem?_eq_getElem hjl)
                  obtain ⟨dj, hdj, _, _⟩ := mds_some HWL.out (List.getElem_mem hjl)
                  have CDj : Hid (∀ W, Below w.heap.size w W → Calls Tryd.prog 21 #[.slice (some ⟨b, off, none⟩) l.length c, .string l[j].handle] W fun e w' => e = .returned (.tuple #[.string (txt (some (hb dj))), .bool true]) ∧ Below W.heap.size W w') := Lib.hid (fun W q => by
                    have := CD.out l[j].handle W q
                    rw [show climbO (findO l) 8 l[j].handle.data.toList = some (hb dj) from hdj] at this
                    exact this)
                  have PN := Lib.hid (part_next (d := d) hjl)
                  have HG := Lib.hid (List.getElem?_eq_getElem hjl)
                  have HPL := Lib.hid (part_len l d j)
                  have hte := txt_dec (hb dj) d
                  rw [hdj] at PN
                  clear hc1 hdj k10
                  generalize l[j] = x at *
                  generalize hb dj = xd at *
                  by_cases he : some xd = some d
                  · have ht2 : ((txt (some xd)).toList == (txt (some d)).toList) = true := by rw [hte, decide_eq_true he]
                    have PN2 : Hid (partO l d (j + 1) = partO l d j ++ [x]) := Lib.hid (by rw [PN.out, if_pos he])
                    clear hte he PN
                    generalize txt (some xd) = tx at *
                    generalize txt (some d) = td at *
                    have hcl : (partO l d j).length + 1 ≤ 1000000 := by have := HPL.out; omega
                    go_wp2_with (first
                      | (go_at_call 21; ((with_reducible refine (CDj.out _ K10.out).mono ?_); rintro e w11 ⟨rfl, q11⟩; have K11 := Lib.hid (bThen K10.out q11); have HO2 := Lib.hid ((HO.out.below q11).below (bAl (Below.refl _ w11) (.cells (obCells x) 31))); have hz8 := (bAl K11.out (.cells (obCells x) 31)).size; obtain ⟨b2, off2, e4, hbk2, hc2⟩ := obs_at (H1.out.below K11.out) (by omega); injection e4 with e4; injection e4 with e5 e6; subst e5 e6; obtain ⟨c0, c1, c2, c3, c4, c5, c6, c7, c8, c9, c10, c11, c12, c13⟩ := hc2 j _ HG.out; clear hc2))
                      | (at_builtin; refine IX.wpList_spreadK obK rfl (.tmp 119) (.tmp 124) rfl w.heap.size _ (partO l d j) rfl HO2.out (w11.heap.size + 1) (some ⟨w11.heap.size, 0, none⟩) 1 1 [x] rfl rfl (RdK.lit w11 x (obCells x) rfl _) hcl hz8 ?_))
                    intro v' w12 o12 g12 _
                    have K12 := Lib.hid ((bAl K11.out (.cells (obCells x) 31)).grown g12 hz8 (fun i hi => (HO2.out.lt i hi).1))
                    have O12 := Lib.hid o12
                    clear o12 g12 HO2
                    go_wp2
                    go_roundw
                    case rel => exact ⟨j + 1, by go_num, by omega, Lib.hid (by rw [PN2.out]; exact O12.out), K12.out⟩
                    case measure => simp [intOf]; omega
                  · have ht2 : ((txt (some xd)).toList == (txt (some d)).toList) = false := by rw [hte, decide_eq_false he]
                    have PN2 : Hid (partO l d (j + 1) = partO l d j) := Lib.hid (by rw [PN.out, if_neg he, List.append_nil])
                    clear hte he PN
                    generalize txt (some xd) = tx at *
                    generalize txt (some d) = td at *
                    go_wp2_with (go_at_call 21; ((with_reducible refine (CDj.out _ K10.out).mono ?_); rintro e w11 ⟨rfl, q11⟩; have K11 := Lib.hid (bThen K10.out q11); have HO2 := Lib.hid (HO.out.below q11)))
                    go_roundw
                    case rel => exact ⟨j + 1, by go_num, by omega, Lib.hid (by rw [PN2.out]; exact HO2.out), K11.out⟩
                    case measure => simp [intOf]; omega
                · obtain rfl : j = l.length := by omega
                  have i2 : ¬ (l.length : Int) < (l.length : Int) := by omega
                  have HO2 := HO.out
                  rw [part_all] at HO2
                  obtain ⟨A9, c9, rfl, r9, _, _⟩ := HO2.form
                  have CWp := Lib.hid (CWo.out _ K10.out _ c9 _ rfl r9)
                  have hin := HIN.out
                  clear HO HO2 r9 k10
                  generalize (ofMds l d).length = no at *
                  go_wp2_with (go_at_call 13; ((with_reducible refine CWp.out.mono ?_); rintro e w11 ⟨rfl, q11⟩; have K11 := Lib.hid (bThen K10.out q11)))
                  go_ret
                  exact ⟨by simp [hin], K11.out⟩
            | false =>
              clear HVB
              go_wp2_with (go_at_call 21; ((with_reducible refine (CDk.out _ K7.out).mono ?_); rintro e w9 ⟨rfl, q9⟩; have K9 := Lib.hid (bThen K7.out q9)))
              clear CDk DK R7 CB
              go_loopw [14, 15] (fun ov v wr => ∃ j : Nat, v = .int .i64 j ∧ j ≤ l.length ∧ Hid (OwnK obK wr w.heap.size ov (partO l d j)) ∧ Below w.heap.size w wr) (fun _ v _ => l.length - (intOf v).toNat)
              case atStart => exact ⟨0, rfl, Nat.zero_le _, Lib.hid (OwnK.nil_ obK _ _), K9.out⟩
              case round =>
                obtain ⟨j, rfl, hj, HO, k10⟩ := hrel
                have K10 := Lib.hid k10
                by_cases hjl : j < l.length
                · have i2 : (j : Int) < (l.length : Int) := by omega
                  obtain ⟨b1, off1, e1, hbk1, hc1⟩ := obs_at (H1.out.below k10) (by omega)
                  injection e1 with e1
                  injection e1 with e2 e3
                  subst e2 e3
                  obtain ⟨g0, _⟩ := hc1 j _ (List.getElem?_eq_getElem hjl)
                  obtain ⟨dj, hdj, _, _⟩ := mds_some HWL.out (List.getElem_mem hjl)
                  have CDj : Hid (∀ W, Below w.heap.size w W → Calls Tryd.prog 21 #[.slice (some ⟨b, off, none⟩) l.length c, .string l[j].handle] W fun e w' => e = .returned (.tuple #[.string (txt (some (hb dj))), .bool true]) ∧ Below W.heap.size W w') := Lib.hid (fun W q => by
                    have := CD.out l[j].handle W q
                    rw [show climbO (findO l) 8 l[j].handle.data.toList = some (hb dj) from hdj] at this
                    exact this)
                  have PN := Lib.hid (part_next (d := d) hjl)
                  have HG := Lib.hid (List.getElem?_eq_getElem hjl)
                  have HPL := Lib.hid (part_len l d j)
                  have hte := txt_dec (hb dj) d
                  rw [hdj] at PN
                  clear hc1 hdj k10
                  generalize l[j] = x at *
                  generalize hb dj = xd at *
                  by_cases he : some xd = some d
                  · have ht2 : ((txt (some xd)).toList == (txt (some d)).toList) = true := by rw [hte, decide_eq_true he]
                    have PN2 : Hid (partO l d (j + 1) = partO l d j ++ [x]) := Lib.hid (by rw [PN.out, if_pos he])
                    clear hte he PN
                    generalize txt (some xd) = tx at *
                    generalize txt (some d) = td at *
                    have hcl : (partO l d j).length + 1 ≤ 1000000 := by have := HPL.out; omega
                    go_wp2_with (first
                      | (go_at_call 21; ((with_reducible refine (CDj.out _ K10.out).mono ?_); rintro e w11 ⟨rfl, q11⟩; have K11 := Lib.hid (bThen K10.out q11); have HO2 := Lib.hid ((HO.out.below q11).below (bAl (Below.refl _ w11) (.cells (obCells x) 31))); have hz8 := (bAl K11.out (.cells (obCells x) 31)).size; obtain ⟨b2, off2, e4, hbk2, hc2⟩ := obs_at (H1.out.below K11.out) (by omega); injection e4 with e4; injection e4 with e5 e6; subst e5 e6; obtain ⟨c0, c1, c2, c3, c4, c5, c6, c7, c8, c9, c10, c11, c12, c13⟩ := hc2 j _ HG.out; clear hc2))
                      | (at_builtin; refine IX.wpList_spreadK obK rfl (.tmp 119) (.tmp 124) rfl w.heap.size _ (partO l d j) rfl HO2.out (w11.heap.size + 1) (some ⟨w11.heap.size, 0, none⟩) 1 1 [x] rfl rfl (RdK.lit w11 x (obCells x) rfl _) hcl hz8 ?_))
                    intro v' w12 o12 g12 _
                    have K12 := Lib.hid ((bAl K11.out (.cells (obCells x) 31)).grown g12 hz8 (fun i hi => (HO2.out.lt i hi).1))
                    have O12 := Lib.hid o12
                    clear o12 g12 HO2
                    go_wp2
                    go_roundw
                    case rel => exact ⟨j + 1, by go_num, by omega, Lib.hid (by rw [PN2.out]; exact O12.out), K12.out⟩
                    case measure => simp [intOf]; omega
                  · have ht2 : ((txt (some xd)).toList == (txt (some d)).toList) = false := by rw [hte, decide_eq_false he]
                    have PN2 : Hid (partO l d (j + 1) = partO l d j) := Lib.hid (by rw [PN.out, if_neg he, List.append_nil])
                    clear hte he PN
                    generalize txt (some xd) = tx at *
                    generalize txt (some d) = td at *
                    go_wp2_with (go_at_call 21; ((with_reducible refine (CDj.out _ K10.out).mono ?_); rintro e w11 ⟨rfl, q11⟩; have K11 := Lib.hid (bThen K10.out q11); have HO2 := Lib.hid (HO.out.below q11)))
                    go_roundw
                    case rel => exact ⟨j + 1, by go_num, by omega, Lib.hid (by rw [PN2.out]; exact HO2.out), K11.out⟩
                    case measure => simp [intOf]; omega
                · obtain rfl : j = l.length := by omega
                  have i2 : ¬ (l.length : Int) < (l.length : Int) := by omega
                  have HO2 := HO.out
                  rw [part_all] at HO2
                  obtain ⟨A9, c9, rfl, r9, _, _⟩ := HO2.form
                  have CWp := Lib.hid (CWo.out _ K10.out _ c9 _ rfl r9)
                  have hin := HIN.out
                  clear HO HO2 r9 k10
                  generalize (ofMds l d).length = no at *
                  go_wp2_with (go_at_call 13; ((with_reducible refine CWp.out.mono ?_); rintro e w11 ⟨rfl, q11⟩; have K11 := Lib.hid (bThen K10.out q11)))
                  go_ret
                  exact ⟨by simp [hin], K11.out⟩
end Go.Proofs.YthlalmoapbdccaaDoor.WX
