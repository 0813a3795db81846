/-
  WALK: TreeOnce.
-/
import Derived.Test.YtlfbjgeobibnhaaDoorRZRLawKit
import Derived.Deep.OwnRows
namespace Go.Proofs.YtlfbjgeobibnhaaDoor.TX
open Go.RowKit HL
open IX (ptr El cellsK cellsK_at OwnK IxAt Rw numOf mayS strK RdK keys)
set_option maxRecDepth 100000
set_option linter.unusedVariables false
set_option linter.unusedSimpArgs false
set_option maxHeartbeats 16000000
theorem once_walk_long {A : Option Addr} (m : Int) (l : List Act8) (c : Nat) (w : World) (hr : RdK actK w w.heap.size A l) (hl : l.length ≤ maxLen) (hW : Words w) (hK : Kinds w) (e1 : longA l = true) :
    Calls Tryd.prog 4 #[.int .i64 m, .slice A l.length c] w fun e w' => e = .returned (.bool true) ∧ Below w.heap.size w w' := by
  have hb : Below w.heap.size w w := Below.refl _ _
  have CA := Lib.hid (fun W (q : Below w.heap.size w W) => awake_any W (hW.then q) (hK.then q))
  have CL := Lib.hid (fun W (q : Below w.heap.size w W) => longA_any A c l W ((hr.below q).more q.size) hl)
  have HR := Lib.hid hr
  have HW := Lib.hid hW
  have HK := Lib.hid hK
  clear hr hW hK
  rw [e1] at CL
  clear e1
  go_enter Tryd.func4, Tryd.ntmps4
  go_wp2_with (first
    | (go_at_call 21; ((with_reducible refine (CA.out _ hb).mono ?_); rintro e w1 ⟨rfl, k1⟩; have K1 := Lib.hid (bThen hb k1)))
    | (go_at_call 22; ((with_reducible refine (CL.out _ K1.out).mono ?_); rintro e w2 ⟨rfl, k2⟩; have K2 := Lib.hid (bThen K1.out k2))))
  go_ret
  exact ⟨rfl, K2.out⟩
theorem once_walk_out {A : Option Addr} (m : Int) (l : List Act8) (c : Nat) (w : World) (hr : RdK actK w w.heap.size A l) (hl : l.length ≤ maxLen) (hW : Words w) (hK : Kinds w) (e1 : longA l = false) (ho : m < 1 ∨ 64 < m) :
    Calls Tryd.prog 4 #[.int .i64 m, .slice A l.length c] w fun e w' => e = .returned (.bool true) ∧ Below w.heap.size w w' := by
  have hb : Below w.heap.size w w := Below.refl _ _
  have CA := Lib.hid (fun W (q : Below w.heap.size w W) => awake_any W (hW.then q) (hK.then q))
  have CL := Lib.hid (fun W (q : Below w.heap.size w W) => longA_any A c l W ((hr.below q).more q.size) hl)
  have HR := Lib.hid hr
  have HW := Lib.hid hW
  have HK := Lib.hid hK
  clear hr hW hK
  rw [e1] at CL
  clear e1
  by_cases b0 : m < 1
  · clear ho
    go_enter Tryd.func4, Tryd.ntmps4
    go_wp2_with (first
      | (go_at_call 21; ((with_reducible refine (CA.out _ hb).mono ?_); rintro e w1 ⟨rfl, k1⟩; have K1 := Lib.hid (bThen hb k1)))
      | (go_at_call 22; ((with_reducible refine (CL.out _ K1.out).mono ?_); rintro e w2 ⟨rfl, k2⟩; have K2 := Lib.hid (bThen K1.out k2))))
    go_ret
    exact ⟨rfl, K2.out⟩
  · skip
    by_cases b1 : 64 < m
    · clear ho
      go_enter Tryd.func4, Tryd.ntmps4
      go_wp2_with (first
        | (go_at_call 21; ((with_reducible refine (CA.out _ hb).mono ?_); rintro e w1 ⟨rfl, k1⟩; have K1 := Lib.hid (bThen hb k1)))
        | (go_at_call 22; ((with_reducible refine (CL.out _ K1.out).mono ?_); rintro e w2 ⟨rfl, k2⟩; have K2 := Lib.hid (bThen K1.out k2))))
      go_ret
      exact ⟨rfl, K2.out⟩
    · exfalso; omega
theorem once_walk_in {A : Option Addr} (m : Nat) (l : List Act8) (c : Nat) (w : World) (hr : RdK actK w w.heap.size A l) (hl : l.length ≤ maxLen) (hW : Words w) (hK : Kinds w) (e1 : longA l = false) (b0 : ¬ (m : Int) < 1) (b1 : ¬ (64 : Int) < m) :
    Calls Tryd.prog 4 #[.int .i64 m, .slice A l.length c] w fun e w' => e = .returned (.bool true) ∧ Below w.heap.size w w' := by
  have hb : Below w.heap.size w w := Below.refl _ _
  have CA := Lib.hid (fun W (q : Below w.heap.size w W) => awake_any W (hW.then q) (hK.then q))
  have CL := Lib.hid (fun W (q : Below w.heap.size w W) => longA_any A c l W ((hr.below q).more q.size) hl)
  have HR := Lib.hid hr
  have HW := Lib.hid hW
  have HK := Lib.hid hK
  clear hr hW hK
  rw [e1] at CL
  generalize hmn : m = n at *
  have hlo := longA_out e1
  have CP := Lib.hid (fun W (q : Below w.heap.size w W) => played_any n (by omega) (by omega) l c W (IX.RdK.more (IX.RdK.below HR.out q) q.size) hlo.1 hlo.2 (HW.out.then q) (HK.out.then q))
  clear e1 hlo hmn
  have hmk := run_make_row' (P := Tryd.prog) 51 4 (.bool false) 1 Tryd.underlying51 (by kernel_rfl) rfl .i64 .i64 n (by omega) (by omega)
  go_enter Tryd.func4, Tryd.ntmps4
  go_wp2_with (first
    | (go_at_call 21; ((with_reducible refine (CA.out _ hb).mono ?_); rintro e w1 ⟨rfl, k1⟩; have K1 := Lib.hid (bThen hb k1)))
    | (go_at_call 22; ((with_reducible refine (CL.out _ K1.out).mono ?_); rintro e w2 ⟨rfl, k2⟩; have K2 := Lib.hid (bThen K1.out k2)))
    | (go_at_call 23; ((with_reducible refine (CP.out w2 K2.out).mono ?_); rintro e w3 ⟨L, s, A', c', inn, rfl, fp, fl, hsn⟩; have TH3 := Lib.hid fp.h; have RI := Lib.hid (own_rd fp.o); have FL := Lib.hid fl; have HSN := Lib.hid hsn; have K3 := Lib.hid (bThen K2.out fp.h.b); have WFS := Lib.hid fp.h.t.wf; clear fp fl hsn; have hin0 : inn.length ≤ n := (by have := in_len FL.out; rw [HSN.out] at this; exact this); have hin1 : decide (n < inn.length) = false := decide_eq_false (by omega); have hin2 : decide ((n : Int) < (inn.length : Int)) = false := decide_eq_false (by omega); have CM := Lib.hid (TH.many TH3.out (all_len FL.out))))
    | (go_at_call 14; ((with_reducible refine CM.out.mono ?_); rintro e w4 ⟨rfl, rfl⟩)))
  go_loopw [9] (fun i wr => ∃ k : Nat, i = .int .i64 k ∧ k ≤ inn.length ∧ Below w3.heap.size w3 wr ∧ AtC wr w3.heap.size (heldC s inn k)) (fun i _ => inn.length - (intOf i).toNat)
  case atStart => exact ⟨0, rfl, Nat.zero_le _, bAl (Below.refl _ _) _, by rw [heldC_0 s inn HSN.out]; exact AtC.new _ _ _⟩
  case round =>
    obtain ⟨k, rfl, hk, kr, hc⟩ := hrel
    by_cases hlt : k < inn.length
    · have i1 : (k : Int) < inn.length := by omega
      obtain ⟨b, off, rfl, hbk, hcc⟩ := row_cells RI.out hlt
      have ROW := Lib.hid hcc
      obtain ⟨g1, g2, g3⟩ := FL.out.at_ WFS.out (List.getElem_mem hlt)
      obtain ⟨h1, h2⟩ := heldC_no FL.out WFS.out hlt
      have NEXT := Lib.hid (heldC_next (s := s) hlt)
      have CAT := Lib.hid (fun W (q : Below w3.heap.size w3 W) => TH.at_ (TH3.out.then q) inn[k].handle (a := inn[k]) (b := true) g2 g1)
      obtain ⟨j, hj⟩ : ∃ j, slotN s (TX.hb inn[k]) = j := ⟨_, rfl⟩
      have CSL := Lib.hid (fun W (q : Below w3.heap.size w3 W) => TH.slot (TH3.out.then q) inn[k].handle (k := j) (b := true) hj g1)
      rw [hj] at h1 h2 NEXT
      rw [HSN.out] at h1
      have hj1 : (j : Int) < n := by omega
      have HSZ : Hid (j < (heldC s inn k).size) := Lib.hid (by rw [heldC_len, HSN.out]; exact h1)
      have HC := Lib.hid hc
      have HB := Lib.hid h2
      have KR := Lib.hid kr
      clear hcc g1 g2 g3 h2 hc hj kr
      generalize inn[k] = o at *
      have hcell : wr.cell? ⟨w3.heap.size, j, none⟩ = some (.bool false) := (HC.out.c j).trans HB.out
      obtain ⟨c0, c1, c2, c3, c4, c5, c6, c7, c8, c9, c10, c11, c12, c13⟩ := ROW.out _ KR.out
      go_wp2_with (first
        | (go_at_call 9; ((with_reducible refine (CAT.out _ KR.out).mono ?_); rintro e w5 ⟨rfl, k5⟩; have K5 := Lib.hid (bAl (bThen KR.out k5) (.cells (obCells o) 23)); clear c0 c1 c2 c3 c4 c5 c6 c7 c8 c9 c10 c11 c12 c13 hcell; obtain ⟨d0, d1, d2, d3, d4, d5, d6, d7, d8, d9, d10, d11, d12, d13⟩ := ROW.out _ K5.out))
        | (go_at_call 10; ((with_reducible refine (CSL.out _ K5.out).mono ?_); rintro e w6 ⟨rfl, k6⟩; have K6 := Lib.hid (bThen K5.out k6); have M6 := Lib.hid ((AtC.new w5 (obCells o) 23).then k6); have H6 := Lib.hid (((HC.out.then k5).al (.cells (obCells o) 23)).then k6); clear d0 d1 d2 d3 d4 d5 d6 d7 d8 d9 d10 d11 d12 d13; obtain ⟨f0, f1, f2, f3, f4, f5, f6, f7, f8, f9, f10, f11, f12, f13⟩ := ROW.out _ K6.out; have mc := M6.out.c; have hcell : w6.cell? ⟨w3.heap.size, j, none⟩ = some (.bool false) := (H6.out.c j).trans HB.out; have hfz := H6.out.f)))
      go_quiet (fail)
      go_wp2
      go_roundw
      case rel => exact ⟨k + 1, by go_num, by omega, bStore (bDrew K6.out _) (p := ⟨w3.heap.size, j, none⟩) (Nat.le_refl _) _, NEXT.out ▸ (AtC.set (H6.out.then (bDrew (Below.refl _ _) _)) HSZ.out _)⟩
      case measure => simp [intOf]; omega
    · obtain rfl : k = inn.length := by omega
      have i1 : ¬ (inn.length : Int) < inn.length := by omega
      have CALL := Lib.hid (TH.all (TH3.out.then kr) (all_len FL.out))
      have HLE : Hid (inn.length ≤ 100000) := Lib.hid (by have := in_len FL.out; rw [HSN.out] at this; omega)
      have HQ : Hid ((obsR s (rowsOf s none)).length = inn.length) := Lib.hid (by rw [obsR, List.length_map]; exact all_len FL.out)
      have ASC := Lib.hid (all_asc WFS.out)
      have KR := Lib.hid kr
      clear kr hc
      go_wp2_with (first
        | (go_at_call 16; ((with_reducible refine CALL.out.mono ?_); rintro e w5 ⟨A5, c5, rfl, o5, k5⟩; have O5 := Lib.hid o5; have K5 := Lib.hid (bThen KR.out k5); clear o5))
        | (go_at_call 24; ((with_reducible refine (named_form A5 c5 inn.length _ w5 (own_rd O5.out) HQ.out HLE.out).mono ?_); rintro e w6 ⟨A6, c6, rfl, o6, k6⟩; have O6 := Lib.hid o6; have K6 := Lib.hid (bThen K5.out k6); clear o6))
        | (go_at_call 25; ((with_reducible refine (rising_form A6 c6 inn.length _ w6 (own_rd O6.out) (by simpa [hs] using HQ.out) (Nat.le_trans HLE.out (by decide)) ASC.out).mono ?_); rintro e w7 ⟨rfl, k7⟩; have K7 := bThen K6.out k7)))
      go_ret
      exact ⟨rfl, (K3.out).trans (K7.mono K3.out.size)⟩
theorem once_walk {A : Option Addr} (m : Int) (l : List Act8) (c : Nat) (w : World) (hr : RdK actK w w.heap.size A l) (hl : l.length ≤ maxLen) (hW : Words w) (hK : Kinds w) :
    Calls Tryd.prog 4 #[.int .i64 m, .slice A l.length c] w fun e w' => e = .returned (.bool true) ∧ Below w.heap.size w w' := by
  cases e1 : longA l with
  | true => exact once_walk_long m l c w hr hl hW hK e1
  | false =>
    by_cases ho : m < 1 ∨ 64 < m
    · exact once_walk_out m l c w hr hl hW hK e1 ho
    · obtain ⟨n, rfl⟩ : ∃ n : Nat, m = n := ⟨m.toNat, by omega⟩
      exact once_walk_in n l c w hr hl hW hK e1 (by omega) (by omega)
end Go.Proofs.YtlfbjgeobibnhaaDoor.TX
