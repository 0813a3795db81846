/-
  WALK: TreeKids.
-/
import Derived.Test.YtlfbjgeobibnhaaDoorRZRLawKit
import Derived.Deep.OwnRows
namespace Go.Proofs.YtlfbjgeobibnhaaDoor.TX
open Go.RowKit HL
open IX (ptr El cellsK cellsK_at OwnK IxAt Rw numOf mayS strK RdK keys)
set_option maxRecDepth 100000
set_option linter.unusedVariables false
set_option linter.unusedSimpArgs false
set_option maxHeartbeats 16000000
theorem bs_eq {a b : ByteArray} (h : a.data.toList = b.data.toList) : a = b := by
  obtain ⟨⟨x⟩⟩ := a
  obtain ⟨⟨y⟩⟩ := b
  simp at h
  rw [h]
theorem above_nextL {s : Sl} (wf : Wf s) {h : Bs} {l : List Bs} (e : above s h = l) : ∀ (j : Nat) (hj : j + 1 < l.length), there s (l[j]'(by omega)) = true ∧ pb (obAt s (l[j]'(by omega))) = l[j + 1] ∧ l[j + 1] ∉ l.take (j + 1) := by
  subst e
  exact fun j hj => above_next wf h hj
theorem kids_walk_long {A : Option Addr} (m : Int) (l : List Act8) (c : Nat) (x : ByteArray) (w : World) (hr : RdK actK w w.heap.size A l) (hl : l.length ≤ maxLen) (hW : Words w) (hK : Kinds w) (e1 : longA l = true) :
    Calls Tryd.prog 6 #[.int .i64 m, .slice A l.length c, .string x] w fun e w' => e = .returned (.bool true) ∧ Below w.heap.size w w' := by
  have hb : Below w.heap.size w w := Below.refl _ _
  have CA := Lib.hid (fun W (q : Below w.heap.size w W) => awake_any W (hW.then q) (hK.then q))
  have CL := Lib.hid (fun W (q : Below w.heap.size w W) => longA_any A c l W ((hr.below q).more q.size) hl)
  have HR := Lib.hid hr
  have HW := Lib.hid hW
  have HK := Lib.hid hK
  clear hr hW hK
  rw [e1] at CL
  clear e1
  go_enter Tryd.func6, Tryd.ntmps6
  go_wp2_with (first
    | (go_at_call 21; ((with_reducible refine (CA.out _ hb).mono ?_); rintro e w1 ⟨rfl, k1⟩; have K1 := Lib.hid (bThen hb k1)))
    | (go_at_call 22; ((with_reducible refine (CL.out _ K1.out).mono ?_); rintro e w2 ⟨rfl, k2⟩; have K2 := Lib.hid (bThen K1.out k2))))
  go_ret
  exact ⟨rfl, K2.out⟩
theorem kids_walk_out {A : Option Addr} (m : Int) (l : List Act8) (c : Nat) (x : ByteArray) (w : World) (hr : RdK actK w w.heap.size A l) (hl : l.length ≤ maxLen) (hW : Words w) (hK : Kinds w) (e1 : longA l = false) (ho : m < 1 ∨ 64 < m ∨ (100 : Int) < x.size) :
    Calls Tryd.prog 6 #[.int .i64 m, .slice A l.length c, .string x] w fun e w' => e = .returned (.bool true) ∧ Below w.heap.size w w' := by
  have hb : Below w.heap.size w w := Below.refl _ _
  have CA := Lib.hid (fun W (q : Below w.heap.size w W) => awake_any W (hW.then q) (hK.then q))
  have CL := Lib.hid (fun W (q : Below w.heap.size w W) => longA_any A c l W ((hr.below q).more q.size) hl)
  have HR := Lib.hid hr
  have HW := Lib.hid hW
  have HK := Lib.hid hK
  clear hr hW hK
  rw [e1] at CL
  clear e1
  by_cases b0 : m < 1
  · clear ho
    go_enter Tryd.func6, Tryd.ntmps6
    go_wp2_with (first
      | (go_at_call 21; ((with_reducible refine (CA.out _ hb).mono ?_); rintro e w1 ⟨rfl, k1⟩; have K1 := Lib.hid (bThen hb k1)))
      | (go_at_call 22; ((with_reducible refine (CL.out _ K1.out).mono ?_); rintro e w2 ⟨rfl, k2⟩; have K2 := Lib.hid (bThen K1.out k2))))
    go_ret
    exact ⟨rfl, K2.out⟩
  · skip
    by_cases b1 : 64 < m
    · clear ho
      go_enter Tryd.func6, Tryd.ntmps6
      go_wp2_with (first
        | (go_at_call 21; ((with_reducible refine (CA.out _ hb).mono ?_); rintro e w1 ⟨rfl, k1⟩; have K1 := Lib.hid (bThen hb k1)))
        | (go_at_call 22; ((with_reducible refine (CL.out _ K1.out).mono ?_); rintro e w2 ⟨rfl, k2⟩; have K2 := Lib.hid (bThen K1.out k2))))
      go_ret
      exact ⟨rfl, K2.out⟩
    · skip
      by_cases b2 : (100 : Int) < x.size
      · clear ho
        go_enter Tryd.func6, Tryd.ntmps6
        go_wp2_with (first
          | (go_at_call 21; ((with_reducible refine (CA.out _ hb).mono ?_); rintro e w1 ⟨rfl, k1⟩; have K1 := Lib.hid (bThen hb k1)))
          | (go_at_call 22; ((with_reducible refine (CL.out _ K1.out).mono ?_); rintro e w2 ⟨rfl, k2⟩; have K2 := Lib.hid (bThen K1.out k2))))
        go_ret
        exact ⟨rfl, K2.out⟩
      · exfalso; omega
theorem kids_walk_in {A : Option Addr} (m : Nat) (l : List Act8) (c : Nat) (x : ByteArray) (w : World) (hr : RdK actK w w.heap.size A l) (hl : l.length ≤ maxLen) (hW : Words w) (hK : Kinds w) (e1 : longA l = false) (b0 : ¬ (m : Int) < 1) (b1 : ¬ (64 : Int) < m) (b2 : ¬ (100 : Int) < x.size) :
    Calls Tryd.prog 6 #[.int .i64 m, .slice A l.length c, .string x] w fun e w' => e = .returned (.bool true) ∧ Below w.heap.size w w' := by
  have hb : Below w.heap.size w w := Below.refl _ _
  have CA := Lib.hid (fun W (q : Below w.heap.size w W) => awake_any W (hW.then q) (hK.then q))
  have CL := Lib.hid (fun W (q : Below w.heap.size w W) => longA_any A c l W ((hr.below q).more q.size) hl)
  have HR := Lib.hid hr
  have HW := Lib.hid hW
  have HK := Lib.hid hK
  clear hr hW hK
  rw [e1] at CL
  generalize hmn : m = n at *
  have hlo := longA_out e1
  have CP := Lib.hid (fun W (q : Below w.heap.size w W) => played_any n (by omega) (by omega) l c W (IX.RdK.more (IX.RdK.below HR.out q) q.size) hlo.1 hlo.2 (HW.out.then q) (HK.out.then q))
  clear e1 hlo hmn
  have HX : Hid (x.size ≤ maxLen) := Lib.hid (by unfold maxLen; omega)
  go_enter Tryd.func6, Tryd.ntmps6
  go_wp2_with (first
    | (go_at_call 21; ((with_reducible refine (CA.out _ hb).mono ?_); rintro e w1 ⟨rfl, k1⟩; have K1 := Lib.hid (bThen hb k1)))
    | (go_at_call 22; ((with_reducible refine (CL.out _ K1.out).mono ?_); rintro e w2 ⟨rfl, k2⟩; have K2 := Lib.hid (bThen K1.out k2)))
    | (go_at_call 23; ((with_reducible refine (CP.out w2 K2.out).mono ?_); rintro e w3 ⟨L, s, A', c', inn, rfl, fp, fl, hsn⟩; have TH3 := Lib.hid fp.h; have RI := Lib.hid (own_rd fp.o); have FL := Lib.hid fl; have HSN := Lib.hid hsn; have K3 := Lib.hid (bThen K2.out fp.h.b); have WFS := Lib.hid fp.h.t.wf; clear fp fl hsn; have hin9 : inn.length ≤ 64 := (by have := in_len FL.out; have := WFS.out.ln; omega); obtain ⟨mk, hmk⟩ : ∃ m, (keys (rowsOf s (some x.data.toList))).length = m := ⟨_, rfl⟩; have hmk9 : mk ≤ 64 := (by rw [← hmk]; simpa [keys] using Nat.le_trans (rowsOf_len s (some x.data.toList)) WFS.out.ln); have HMK := Lib.hid hmk; have HMKL : Hid (mk ≤ 1000000) := Lib.hid (by omega); have ASCK := Lib.hid (kids_asc (s := s) x.data.toList); clear hmk))
    | (go_at_call 18; ((with_reducible refine (TH.kids TH3.out x HX.out HMK.out).mono ?_); rintro e w4 ⟨A4, c4, rfl, o4, k4⟩; have R4 := Lib.hid (own_rd o4); have K4 := Lib.hid (bThen K3.out k4); clear o4))
    | (go_at_call 25; ((with_reducible refine (rising_form A4 c4 mk _ w4 R4.out HMK.out HMKL.out ASCK.out).mono ?_); rintro e w5 ⟨rfl, k5⟩; have RK := Lib.hid ((R4.out.below k5).more k5.size); have K5 := Lib.hid (bThen K4.out k5); have TH5 := Lib.hid ((TH3.out.then k4).then k5); have RI5 := Lib.hid ((RI.out.below (bThen k4 k5)).more (Nat.le_trans k4.size k5.size)))))
  go_loopw [11] (fun i wr => ∃ k : Nat, i = .int .i64 k ∧ k ≤ inn.length ∧ Below w5.heap.size w5 wr) (fun i _ => inn.length - (intOf i).toNat)
  case atStart => exact ⟨0, rfl, Nat.zero_le _, Below.refl _ _⟩
  case round =>
    obtain ⟨k, rfl, hk, kr⟩ := hrel
    by_cases hlt : k < inn.length
    · have i1 : (k : Int) < inn.length := by omega
      obtain ⟨b, off, rfl, hbk, hcc⟩ := row_cells RI5.out hlt
      have ROW := Lib.hid hcc
      obtain ⟨g1, g2, g3⟩ := FL.out.at_ WFS.out (List.getElem_mem hlt)
      have HPL : Hid (inn[k].parent.size ≤ maxLen) := Lib.hid (by have h1 := WFS.out.pl _ _ g3; have h2 : inn[k].parent.size ≤ 100 := h1; unfold maxLen; omega)
      obtain ⟨mk2, hmk2⟩ : ∃ m, (keys (rowsOf s (some (pb inn[k])))).length = m := ⟨_, rfl⟩
      have hmk3 : mk2 ≤ 64 := by rw [← hmk2]; simpa [keys] using Nat.le_trans (rowsOf_len s (some (pb inn[k]))) WFS.out.ln
      have HMK2 := Lib.hid hmk2
      have HMK3 : Hid (mk2 ≤ 1000000) := Lib.hid (by omega)
      have HIN : Hid (decide (TX.hb inn[k] ∈ keys (rowsOf s (some (pb inn[k])))) = true) := Lib.hid (by rw [kid_mem WFS.out g3]; simp)
      obtain ⟨hp, hhp⟩ : ∃ b, decide (pb inn[k] = x.data.toList) = b := ⟨_, rfl⟩
      have CHK := Lib.hid (fun W (q : Below w5.heap.size w5 W) => has_form A4 c4 mk (keys (rowsOf s (some x.data.toList))) inn[k].handle W ((RK.out.below q).more q.size) HMK.out HMKL.out ((kid_mem WFS.out g3 x.data.toList).trans hhp))
      have CKO := Lib.hid (fun W (q : Below w5.heap.size w5 W) => TH.kids (TH5.out.then q) inn[k].parent HPL.out hmk2)
      obtain ⟨la, hla⟩ : ∃ la, (above s (TX.hb inn[k])).length = la := ⟨_, rfl⟩
      have hla64 : la ≤ 64 := hla ▸ above_len WFS.out _
      have CAB := Lib.hid (fun W (q : Below w5.heap.size w5 W) => TH.above (TH5.out.then q) inn[k].handle hla)
      obtain ⟨y, hy⟩ : ∃ y, obAt s (pb inn[k]) = y := ⟨_, rfl⟩
      obtain ⟨tp, htp⟩ : ∃ tp, there s (pb inn[k]) = tp := ⟨_, rfl⟩
      have CAP := Lib.hid (fun W (q : Below w5.heap.size w5 W) => TH.at_ (TH5.out.then q) inn[k].parent hy htp)
      have HEAD := above_head WFS.out (TX.hb inn[k])
      rw [g2, htp] at HEAD
      have HLA := Lib.hid hla
      have HEQ : Hid ((inn[k].parent.toList == x.toList) = hp) := Lib.hid (by
        rw [← hhp]
        by_cases e : inn[k].parent = x
        · show (inn[k].parent.toList == x.toList) = decide (inn[k].parent.data.toList = x.data.toList)
          rw [e]; simp
        · rw [tl_ne e, eq_comm, decide_eq_false_iff_not]
          exact fun z => e (bs_eq z))
      obtain ⟨ups, hups⟩ : ∃ u, above s (TX.hb inn[k]) = u := ⟨_, rfl⟩
      have NEXT := Lib.hid (above_nextL WFS.out hups)
      have KR := Lib.hid kr
      clear hcc g1 g2 g3 hmk2 hhp hla hy htp kr
      rw [hups] at HEAD HLA CAB
      clear hups
      generalize inn[k] = o at *
      have heq := HEQ.out
      obtain ⟨ca0, ca1, ca2, ca3, ca4, ca5, ca6, ca7, ca8, ca9, ca10, ca11, ca12, ca13⟩ := ROW.out _ KR.out
      go_wp2
      have MX : AtC (wr.alloc (.cells (obCells o) 23)) wr.heap.size (obCells o) := AtC.new _ _ _
      have KX0 : Below w5.heap.size w5 (wr.alloc (.cells (obCells o) 23)) := bAl KR.out _
      clear ca0 ca1 ca2 ca3 ca4 ca5 ca6 ca7 ca8 ca9 ca10 ca11 ca12 ca13
      generalize wr.alloc (.cells (obCells o) 23) = w7 at *
      have K7 := Lib.hid KX0
      have M7 := Lib.hid MX
      clear MX KX0
      have hP : ∀ w', Below w7.heap.size w7 w' → (∀ i, w'.cell? ⟨wr.heap.size, i, none⟩ = (obCells o)[i]?) := fun w' k => (M7.out.then k).c
      have KX := Lib.hid (Below.refl w7.heap.size w7)
      go_region_held3 (fun w' => (∀ i, w'.cell? ⟨wr.heap.size, i, none⟩ = (obCells o)[i]?) ∧ Below w7.heap.size w7 w')
        (first | with_reducible assumption | with_reducible exact ⟨hP _ KX.out.drew, KX.out.drew⟩ | with_reducible exact ⟨hP _ (keepD (by assumption) k3), keepD (by assumption) k3⟩)
        (first
        | (go_at_call 18; (with_reducible refine (CKO.out _ (bThen K7.out (‹_ ∧ Below w7.heap.size w7 _›).2)).mono ?_); rintro e w8 ⟨A8, c8, rfl, o8, k3⟩; have O8 := Lib.hid (own_rd o8); have X8 := Lib.hid (Below.refl w8.heap.size w8); clear o8)
        | (go_at_call 26; (with_reducible refine (CHK.out _ (bThen K7.out (‹_ ∧ Below w7.heap.size w7 _›).2)).mono ?_); rintro e w9 ⟨rfl, rfl⟩)
        | (go_at_call 26; (with_reducible refine (has_form A8 c8 mk2 _ o.handle _ O8.out HMK2.out HMK3.out HIN.out).mono ?_); rintro e w9 ⟨rfl, rfl⟩))
      have H8 : Hid ((∀ i, w8.cell? ⟨wr.heap.size, i, none⟩ = (obCells o)[i]?) ∧ Below w7.heap.size w7 w8) := Lib.hid (by assumption)
      have K8 := Lib.hid (bThen K7.out H8.out.2)
      have M8 := Lib.hid (M7.out.then H8.out.2)
      have mc8 := M8.out.c
      clear hP KX X8 O8 CHK CKO
      clear HMK2 HMK3 HIN HPL
      go_wp2_with (first
        | (go_at_call 19; ((with_reducible refine (CAB.out _ K8.out).mono ?_); rintro e w9 ⟨A9, c9, rfl, o9, k9⟩; have R9 := Lib.hid (own_rd o9); have HC9 := Lib.hid (own_cap o9 HLA.out); have K9 := Lib.hid (bThen K8.out k9); clear mc8 o9; have mc9 := (M8.out.then k9).c))
        | (go_at_call 9; ((with_reducible refine (CAP.out _ K9.out).mono ?_); rintro e w10 ⟨rfl, k10⟩; have K10 := Lib.hid (bAl (bThen K9.out k10) (.cells (obCells y) 23)); have KT := Lib.hid (bThen k9 (bAl k10 (.cells (obCells y) 23))); have RU := Lib.hid ((R9.out.below (bAl k10 (.cells (obCells y) 23))).more (bAl k10 (.cells (obCells y) 23)).size); clear mc9; have mc10 := (M8.out.then KT.out).c)))
      generalize w10.alloc (.cells (obCells y) 23) = w11 at *
      rcases HEAD with ⟨rfl, l2, rfl⟩ | ⟨rfl, rfl⟩
      · have la0 : 0 < la := by rw [← HLA.out]; simp
        have la1 : (0 : Int) < la := by omega
        obtain ⟨b9, off9, rfl, hs9⟩ := str_cell RU.out (by simp)
        have HS9 := Lib.hid hs9
        have s0 : w11.cell? ⟨b9, off9, none⟩ = some (.string o.parent) := hs9 w11 (Below.refl _ _) 0 (by simp)
        clear hs9
        go_quiet (fail)
        go_wp2
        go_loopw [16] (fun i wq => ∃ j : Nat, i = .int .i64 j ∧ j + 1 ≤ la ∧ Below w11.heap.size w11 wq) (fun i _ => la - (intOf i).toNat)
        case atStart => exact ⟨0, rfl, la0, bDrew (Below.refl _ _) _⟩
        case round =>
          obtain ⟨j, rfl, hj, kj⟩ := hrel
          by_cases hjl : j + 1 < la
          · have j1 : (j : Int) + 1 < la := by omega
            have j2 : (j : Int) < la := by omega
            have jl : j + 1 < (pb o :: l2).length := by rw [HLA.out]; exact hjl
            obtain ⟨n1, n2, n3⟩ := NEXT.out j jl
            obtain ⟨p2, hp2⟩ : ∃ p, obAt s (pb o :: l2)[j] = p := ⟨_, rfl⟩
            rw [hp2] at n2
            have KJ := Lib.hid (bThen K10.out kj)
            have SC := Lib.hid (fun W (q : Below w11.heap.size w11 W) => HS9.out W q (j + 1) jl)
            rw [← n2] at SC n3
            have SC : Hid (∀ W, Below w11.heap.size w11 W → W.cell? ⟨b9, off9 + (j + 1), none⟩ = some (.string p2.parent)) := SC
            have sj : wr.cell? ⟨b9, off9 + j, none⟩ = some (.string ⟨(pb o :: l2)[j].toArray⟩) := HS9.out wr kj j (by omega)
            have CAU := Lib.hid (fun W (q : Below w5.heap.size w5 W) => TH.at_ (TH5.out.then q) ⟨(pb o :: l2)[j].toArray⟩ hp2 n1)
            have CHU := Lib.hid (fun W (q : Below w11.heap.size w11 W) => has_form (some ⟨b9, off9, none⟩) c9 (j + 1) ((pb o :: l2).take (j + 1)) p2.parent W (rd_take ((RU.out.below q).more q.size) (j + 1)) (by rw [List.length_take, Nat.min_eq_left (by omega)]) (by omega) (decide_eq_false n3))
            have SL : ∀ W, (Instr.slice 43 (.slice (some ⟨b9, off9, none⟩) la c9) none (some (.int .i64 ((j : Int) + 1))) none).run Tryd.prog W = .ok (.slice (some ⟨b9, off9, none⟩) (j + 1) c9) W := fun W => IX.slice_toK strK (A := some ⟨b9, off9, none⟩) (n := la) (c := c9) (p := j + 1) (by omega) HC9.out W
            have KW := Lib.hid kj
            clear n1 n2 n3 hp2 kj s0
            generalize (⟨(pb o :: l2)[j].toArray⟩ : ByteArray) = u at *
            clear jl
            go_wp2_with (go_at_call 9; ((with_reducible refine (CAU.out _ KJ.out).mono ?_); rintro e w12 ⟨rfl, k12⟩; have K12 := Lib.hid (bAl (bThen KW.out k12) (.cells (obCells p2) 23)); have mp := (AtC.new w12 (obCells p2) 23).c; have s1 := SC.out _ K12.out))
            go_quiet ((go_at_call 26; with_reducible exact Calls.quiet_of_same ((CHU.out _ (bDrew K12.out _)).mono fun _ _ h => ⟨h.1, h.2.symm⟩)))
            go_wp2
            go_roundw
            case rel => exact ⟨j + 1, by go_num, by omega, bDrew K12.out _⟩
            case measure => simp [intOf]; omega
          · have j1 : ¬ (j : Int) + 1 < la := by omega
            have KW := Lib.hid (bThen K10.out kj)
            go_wp2
            go_roundw
            case rel => exact ⟨k + 1, by go_num, by omega, KW.out⟩
            case measure => simp [intOf]; omega
      · obtain rfl : la = 0 := HLA.out.symm
        go_quiet (fail)
        go_wp2
        go_loopw [16] (fun i wq => i = .int .i64 0 ∧ Below w11.heap.size w11 wq) (fun i _ => 0)
        case atStart => exact ⟨rfl, bDrew (Below.refl _ _) _⟩
        case round =>
          obtain ⟨rfl, kj⟩ := hrel
          have KW := Lib.hid (bThen K10.out kj)
          go_wp2
          go_roundw
          case rel => exact ⟨k + 1, by go_num, by omega, KW.out⟩
          case measure => simp [intOf]; omega
    · obtain rfl : k = inn.length := by omega
      have i1 : ¬ (inn.length : Int) < inn.length := by omega
      go_wp2
      go_ret
      exact ⟨rfl, (K5.out).trans (kr.mono K5.out.size)⟩
theorem kids_walk {A : Option Addr} (m : Int) (l : List Act8) (c : Nat) (x : ByteArray) (w : World) (hr : RdK actK w w.heap.size A l) (hl : l.length ≤ maxLen) (hW : Words w) (hK : Kinds w) :
    Calls Tryd.prog 6 #[.int .i64 m, .slice A l.length c, .string x] w fun e w' => e = .returned (.bool true) ∧ Below w.heap.size w w' := by
  cases e1 : longA l with
  | true => exact kids_walk_long m l c x w hr hl hW hK e1
  | false =>
    by_cases ho : m < 1 ∨ 64 < m ∨ (100 : Int) < x.size
    · exact kids_walk_out m l c x w hr hl hW hK e1 ho
    · obtain ⟨n, rfl⟩ : ∃ n : Nat, m = n := ⟨m.toNat, by omega⟩
      exact kids_walk_in n l c x w hr hl hW hK e1 (by omega) (by omega) (by omega)
end Go.Proofs.YtlfbjgeobibnhaaDoor.TX
