/-
  WALK: the document's Objects.
-/
import Derived.Test.YtkgjgbenfpkekaaGreatPR4
import Derived.Deep.MidRow
namespace Go.Proofs.YtkgjgbenfpkekaaGreat.PX
open Go.RowKit HL
open IX (ptr El cellsK cellsK_at cellsK_len OwnK RdK Kept step_spreadK wpList_spreadK)
open YX (numB rdU rdB rdT rdS rdI addW intN natI rest told u8K Own own1 u8n)
open DX (Ch ch chCells chK chs_at)
open WX (obK obs_at)
set_option maxRecDepth 100000
set_option linter.unusedVariables false
set_option linter.unusedSimpArgs false

set_option maxHeartbeats 8000000 in
theorem refObjects_any (A : Option Addr) (c : Nat) (l : List Ob) (w : World) (h : RdK obK w w.heap.size A l) (hF : ∀ x ∈ l, Fine x) (hn : l.length ≤ 1000) :
    Calls Tryz.prog 42 #[.slice A l.length c] w fun e w' => Bts w (writeL codO l) e w' := by
  have H := Lib.hid h
  have hu : IntKind.u64.wrap (l.length : Int) = (l.length : Int) := YX.wU (by omega)
  have CU := Lib.hid (fun W => YX.refU_any l.length (by omega) _ W rfl)
  have HN10 := Lib.hid (numB_le (show l.length < 18446744073709551616 by omega))
  obtain ⟨r, hr⟩ : ∃ r, writeL codO l = r := ⟨_, rfl⟩
  have HNL : Hid (64 < l.length → r = none) := Lib.hid (fun g => by rw [← hr]; exact writeL_long _ g)
  have HNS : Hid (∀ k (g : k < l.length), codO.short l[k] = false → r = none) := Lib.hid (fun k g q => by rw [← hr]; exact writeL_no _ (List.getElem_mem g) q)
  have HYE : Hid (l.length ≤ 64 → l.all codO.short = true → r = capB (numB l.length ++ encL codO l)) := Lib.hid (fun g q => by rw [← hr]; exact writeL_cap _ g q)
  have HFF := Lib.hid hF
  rw [hr]
  clear h hF hr
  go_enter Tryz.func42, Tryz.ntmps42
  go_wp2_with (go_at_call 60; ((refine (CU.out _).mono ?_); rintro e w2 ⟨v2, rfl, o2, k2⟩; have O2 := Lib.hid o2; have K2 := Lib.hid k2; clear o2 k2))
  go_loopw [4, 5] (fun v i wr => ∃ k : Nat, i = .int .i64 k ∧ k ≤ l.length ∧ (k = 0 ∨ l.length ≤ 64) ∧ Hid ((l.take k).all codO.short = true) ∧ Hid (OwnK u8K wr w.heap.size v (numB l.length ++ encL codO (l.take k))) ∧ Below w.heap.size w wr) (fun _ i _ => l.length - (intOf i).toNat)
  case atStart => exact ⟨0, rfl, by omega, .inl rfl, Lib.hid rfl, Lib.hid (by simpa [encL] using O2.out), K2.out⟩
  case round =>
    obtain ⟨k, rfl, hk, h64, hA, hO, hb⟩ := hrel
    have HB := Lib.hid hb
    clear O2 K2
    by_cases hlt : k < l.length
    · have i1 : (k : Int) < (l.length : Int) := by omega
      obtain ⟨b, off, rfl, hbb, hcc⟩ : ∃ b off, A = some ⟨b, off, none⟩ ∧ b < w.heap.size ∧ ∀ W, Below w.heap.size w W → ∀ i u, (obCells l[k])[i]? = some u → W.cell? ⟨b, off + k * 14 + i, none⟩ = some u := by
        rcases H.out with q | ⟨b, off, e, hb2, hc2⟩
        · rw [q] at hlt; simp at hlt
        · refine ⟨b, off, e, hb2, fun W q i u hu => ?_⟩
          rw [Nat.add_assoc]
          exact (q.cell (p := ⟨b, _, none⟩) hb2).trans (hc2 _ _ (cellsK_at obK (List.getElem?_eq_getElem hlt) (i := i) (u := u) (by rw [← hu]; exact Array.getElem?_toList)))
      have ROW := Lib.hid hcc
      have hx : l[k] ∈ l := List.getElem_mem hlt
      have HN := Lib.hid (encL_next codO hlt)
      have HA1 : Hid (codO.short l[k] = true → (l.take (k + 1)).all codO.short = true) := Lib.hid (fun q => by rw [List.take_succ_eq_append_getElem hlt, List.all_append, hA.out]; simp [q])
      have HNO := Lib.hid (HNS.out k hlt)
      have hFx := HFF.out _ hx
      have CO := Lib.hid (fun W => (refObject_any l[k] W hFx).mono fun _ _ => own_tel)
      have HLX := Lib.hid (codO.b_len l[k] hFx)
      have HLE := Lib.hid (encL_len codO (l.take k) (fun x hx => HFF.out x (List.mem_of_mem_take hx)))
      have hlk : (l.take k).length = k := by rw [List.length_take]; omega
      have CL := Lib.hid (fun W => refLong_any l[k] W)
      rw [hlk] at HLE
      clear hcc hx hFx hlk HNS HFF
      generalize l[k] = x at *
      generalize encL codO (l.take k) = rk at *
      obtain ⟨sx, hsx⟩ : ∃ sx, objShort x = sx := ⟨_, rfl⟩
      have p0 : wr.cell? ⟨b, off + k * 14, none⟩ = some (.string x.handle) := ROW.out wr hb 0 _ rfl
      have p1 : wr.cell? ⟨b, off + k * 14 + 1, none⟩ = some (.int .u8 x.kind) := ROW.out wr hb 1 _ rfl
      have p2 : wr.cell? ⟨b, off + k * 14 + 2, none⟩ = some (.string x.parent) := ROW.out wr hb 2 _ rfl
      have p3 : wr.cell? ⟨b, off + k * 14 + 3, none⟩ = some (.int .u8 x.typ) := ROW.out wr hb 3 _ rfl
      have p4 : wr.cell? ⟨b, off + k * 14 + 4, none⟩ = some (.string x.ref) := ROW.out wr hb 4 _ rfl
      have p5 : wr.cell? ⟨b, off + k * 14 + 5, none⟩ = some (.int .i64 x.lo) := ROW.out wr hb 5 _ rfl
      have p6 : wr.cell? ⟨b, off + k * 14 + 6, none⟩ = some (.int .i64 x.hi) := ROW.out wr hb 6 _ rfl
      have p7 : wr.cell? ⟨b, off + k * 14 + 7, none⟩ = some (.int .u8 x.digits) := ROW.out wr hb 7 _ rfl
      have p8 : wr.cell? ⟨b, off + k * 14 + 8, none⟩ = some (.bool x.on) := ROW.out wr hb 8 _ rfl
      have p9 : wr.cell? ⟨b, off + k * 14 + 9, none⟩ = some (.bool x.has) := ROW.out wr hb 9 _ rfl
      have p10 : wr.cell? ⟨b, off + k * 14 + 10, none⟩ = some (.int .i64 x.value) := ROW.out wr hb 10 _ rfl
      have p11 : wr.cell? ⟨b, off + k * 14 + 11, none⟩ = some (.int .i64 x.low) := ROW.out wr hb 11 _ rfl
      have p12 : wr.cell? ⟨b, off + k * 14 + 12, none⟩ = some (.int .i64 x.high) := ROW.out wr hb 12 _ rfl
      have p13 : wr.cell? ⟨b, off + k * 14 + 13, none⟩ = some (.int .u8 x.assoc) := ROW.out wr hb 13 _ rfl
      rw [hsx] at CL
      cases sx with
      | false =>
        have HR0 : Hid (r = none) := Lib.hid (HNO.out (by exact hsx))
        go_wp2_with (go_at_call 58; ((refine (CL.out _).mono ?_); rintro e w3 ⟨rfl, k3⟩; have K3 := Lib.hid (bThen HB.out k3); have k3h := Lib.hid k3; clear k3 p0 p1 p2 p3 p4 p5 p6 p7 p8 p9 p10 p11 p12 p13))
        go_ret2
        exact ⟨_, 3, rfl, by rw [HR0.out]; exact .no', K3.out⟩
      | true =>
        have hsh : codO.short x = true := hsx
        by_cases h6 : 64 < l.length
        · have i6 : (64 : Int) < (l.length : Int) := by omega
          have HR0 : Hid (r = none) := Lib.hid (HNL.out h6)
          go_wp2_with (go_at_call 58; ((refine (CL.out _).mono ?_); rintro e w3 ⟨rfl, k3⟩; have K3 := Lib.hid (bThen HB.out k3); have k3h := Lib.hid k3; clear k3 p0 p1 p2 p3 p4 p5 p6 p7 p8 p9 p10 p11 p12 p13; skip))
          go_ret2
          exact ⟨_, 3, rfl, by rw [HR0.out]; exact .no', K3.out⟩
        · have i6 : ¬ (64 : Int) < (l.length : Int) := by omega
          have HA2 := Lib.hid (HA1.out hsh)
          have HXL : Hid ((numB l.length ++ rk).length + (codO.B x).length ≤ 1000000) := Lib.hid (by have := HN10.out; have := HLX.out; have := HLE.out; rw [List.length_append]; omega)
          go_wp2_with (first
            | (go_at_call 58; ((refine (CL.out _).mono ?_); rintro e w3 ⟨rfl, k3⟩; have K3 := Lib.hid (bThen HB.out k3); have k3h := Lib.hid k3; clear k3 p0 p1 p2 p3 p4 p5 p6 p7 p8 p9 p10 p11 p12 p13; have q0 : w3.cell? ⟨b, off + k * 14, none⟩ = some (.string x.handle) := ROW.out w3 K3.out 0 _ rfl; have q1 : w3.cell? ⟨b, off + k * 14 + 1, none⟩ = some (.int .u8 x.kind) := ROW.out w3 K3.out 1 _ rfl; have q2 : w3.cell? ⟨b, off + k * 14 + 2, none⟩ = some (.string x.parent) := ROW.out w3 K3.out 2 _ rfl; have q3 : w3.cell? ⟨b, off + k * 14 + 3, none⟩ = some (.int .u8 x.typ) := ROW.out w3 K3.out 3 _ rfl; have q4 : w3.cell? ⟨b, off + k * 14 + 4, none⟩ = some (.string x.ref) := ROW.out w3 K3.out 4 _ rfl; have q5 : w3.cell? ⟨b, off + k * 14 + 5, none⟩ = some (.int .i64 x.lo) := ROW.out w3 K3.out 5 _ rfl; have q6 : w3.cell? ⟨b, off + k * 14 + 6, none⟩ = some (.int .i64 x.hi) := ROW.out w3 K3.out 6 _ rfl; have q7 : w3.cell? ⟨b, off + k * 14 + 7, none⟩ = some (.int .u8 x.digits) := ROW.out w3 K3.out 7 _ rfl; have q8 : w3.cell? ⟨b, off + k * 14 + 8, none⟩ = some (.bool x.on) := ROW.out w3 K3.out 8 _ rfl; have q9 : w3.cell? ⟨b, off + k * 14 + 9, none⟩ = some (.bool x.has) := ROW.out w3 K3.out 9 _ rfl; have q10 : w3.cell? ⟨b, off + k * 14 + 10, none⟩ = some (.int .i64 x.value) := ROW.out w3 K3.out 10 _ rfl; have q11 : w3.cell? ⟨b, off + k * 14 + 11, none⟩ = some (.int .i64 x.low) := ROW.out w3 K3.out 11 _ rfl; have q12 : w3.cell? ⟨b, off + k * 14 + 12, none⟩ = some (.int .i64 x.high) := ROW.out w3 K3.out 12 _ rfl; have q13 : w3.cell? ⟨b, off + k * 14 + 13, none⟩ = some (.int .u8 x.assoc) := ROW.out w3 K3.out 13 _ rfl))
            | (go_at_call 96; ((refine (CO.out _).mono ?_); rintro e w4 ⟨Ao, co, rfl, ro, k4⟩; have RO := Lib.hid ro; have K4 := Lib.hid (bThen K3.out k4); have O4 := Lib.hid (hO.out.below (bThen k3h.out k4)); clear ro k4))
            | (at_builtin; refine wpList_spreadK u8K rfl (.tmp 26) (.tmp 31) rfl w.heap.size _ _ rfl O4.out w4.heap.size Ao _ co _ rfl rfl RO.out ?c1 ?c2 ?_))
          case c1 => exact HXL.out
          case c2 => exact K4.out.size
          intro v5 w5 o5 g5 f5
          have K5 := Lib.hid (K4.out.grown g5 K4.out.size (fun a ha => (O4.out.lt a ha).1))
          have O5 := Lib.hid o5
          clear o5 g5
          go_wp2
          go_roundw
          case rel => exact ⟨k + 1, by go_num, by omega, .inr (by omega), HA2, Lib.hid (by rw [HN.out]; exact O5.out), K5.out⟩
          case measure => (simp [intOf]; try omega)
    · obtain rfl : k = l.length := by omega
      have i1 : ¬ (l.length : Int) < (l.length : Int) := by omega
      have h64' : l.length ≤ 64 := by omega
      rw [List.take_length] at hA hO
      have HRR := Lib.hid (HYE.out h64' hA.out)
      obtain ⟨Af, cf, rfl, rf, hcf, _⟩ := hO.out.form
      have CW := Lib.hid (refWhole_any _ Af cf wr rf hcf (nn_of rf (by rw [List.length_append]; have := YX.numB_pos l.length; omega)))
      clear HYE HNL HNS HFF rf hcf hO
      generalize numB l.length ++ encL codO l = t at *
      go_wp2_with (go_at_call 97; ((refine CW.out.mono ?_); rintro e w6 ⟨v, n, rfl, b6, k6⟩; have B6 := Lib.hid b6; have K6 := Lib.hid (bThen HB.out k6); clear b6 k6))
      go_ret2
      exact ⟨v, n, rfl, by rw [HRR.out]; exact B6.out, K6.out⟩
end Go.Proofs.YtkgjgbenfpkekaaGreat.PX
/-
  WALK: the document's Set.
-/
namespace Go.Proofs.YtkgjgbenfpkekaaGreat.PX
open Go.RowKit HL
open IX (ptr El cellsK cellsK_at cellsK_len OwnK RdK Kept step_spreadK wpList_spreadK)
open YX (numB rdU rdB rdT rdS rdI addW intN natI rest told u8K Own own1 u8n)
open DX (Ch ch chCells chK chs_at)
open WX (obK obs_at)
set_option maxRecDepth 100000
set_option linter.unusedVariables false
set_option linter.unusedSimpArgs false

set_option maxHeartbeats 8000000 in
theorem refSet_any (A : Option Addr) (c : Nat) (l : List Ch) (w : World) (h : RdK chK w w.heap.size A l) (hF : ∀ x ∈ l, FineC x) (hn : l.length ≤ 1000) :
    Calls Tryz.prog 48 #[.slice A l.length c] w fun e w' => Bts w (writeL codC l) e w' := by
  have H := Lib.hid h
  have hu : IntKind.u64.wrap (l.length : Int) = (l.length : Int) := YX.wU (by omega)
  have CU := Lib.hid (fun W => YX.refU_any l.length (by omega) _ W rfl)
  have HN10 := Lib.hid (numB_le (show l.length < 18446744073709551616 by omega))
  obtain ⟨r, hr⟩ : ∃ r, writeL codC l = r := ⟨_, rfl⟩
  have HNL : Hid (64 < l.length → r = none) := Lib.hid (fun g => by rw [← hr]; exact writeL_long _ g)
  have HNS : Hid (∀ k (g : k < l.length), codC.short l[k] = false → r = none) := Lib.hid (fun k g q => by rw [← hr]; exact writeL_no _ (List.getElem_mem g) q)
  have HYE : Hid (l.length ≤ 64 → l.all codC.short = true → r = capB (numB l.length ++ encL codC l)) := Lib.hid (fun g q => by rw [← hr]; exact writeL_cap _ g q)
  have HFF := Lib.hid hF
  rw [hr]
  clear h hF hr
  go_enter Tryz.func48, Tryz.ntmps48
  go_wp2_with (go_at_call 60; ((refine (CU.out _).mono ?_); rintro e w2 ⟨v2, rfl, o2, k2⟩; have O2 := Lib.hid o2; have K2 := Lib.hid k2; clear o2 k2))
  go_loopw [4, 5] (fun v i wr => ∃ k : Nat, i = .int .i64 k ∧ k ≤ l.length ∧ (k = 0 ∨ l.length ≤ 64) ∧ Hid ((l.take k).all codC.short = true) ∧ Hid (OwnK u8K wr w.heap.size v (numB l.length ++ encL codC (l.take k))) ∧ Below w.heap.size w wr) (fun _ i _ => l.length - (intOf i).toNat)
  case atStart => exact ⟨0, rfl, by omega, .inl rfl, Lib.hid rfl, Lib.hid (by simpa [encL] using O2.out), K2.out⟩
  case round =>
    obtain ⟨k, rfl, hk, h64, hA, hO, hb⟩ := hrel
    have HB := Lib.hid hb
    clear O2 K2
    by_cases hlt : k < l.length
    · have i1 : (k : Int) < (l.length : Int) := by omega
      obtain ⟨b, off, rfl, hbb, hcc⟩ : ∃ b off, A = some ⟨b, off, none⟩ ∧ b < w.heap.size ∧ ∀ W, Below w.heap.size w W → ∀ i u, (chCells l[k])[i]? = some u → W.cell? ⟨b, off + k * 15 + i, none⟩ = some u := by
        rcases H.out with q | ⟨b, off, e, hb2, hc2⟩
        · rw [q] at hlt; simp at hlt
        · refine ⟨b, off, e, hb2, fun W q i u hu => ?_⟩
          rw [Nat.add_assoc]
          exact (q.cell (p := ⟨b, _, none⟩) hb2).trans (hc2 _ _ (cellsK_at chK (List.getElem?_eq_getElem hlt) (i := i) (u := u) (by rw [← hu]; exact Array.getElem?_toList)))
      have ROW := Lib.hid hcc
      have hx : l[k] ∈ l := List.getElem_mem hlt
      have HN := Lib.hid (encL_next codC hlt)
      have HA1 : Hid (codC.short l[k] = true → (l.take (k + 1)).all codC.short = true) := Lib.hid (fun q => by rw [List.take_succ_eq_append_getElem hlt, List.all_append, hA.out]; simp [q])
      have HNO := Lib.hid (HNS.out k hlt)
      have hFx := HFF.out _ hx
      have CO := Lib.hid (fun W => (refChange_any l[k] W hFx).mono fun _ _ => own_tel)
      have HLX := Lib.hid (codC.b_len l[k] hFx)
      have HLE := Lib.hid (encL_len codC (l.take k) (fun x hx => HFF.out x (List.mem_of_mem_take hx)))
      have hlk : (l.take k).length = k := by rw [List.length_take]; omega
      have CL := Lib.hid (fun W => refLong_any l[k].o W)
      rw [hlk] at HLE
      clear hcc hx hFx hlk HNS HFF
      generalize l[k] = x at *
      generalize encL codC (l.take k) = rk at *
      obtain ⟨sx, hsx⟩ : ∃ sx, objShort x.o = sx := ⟨_, rfl⟩
      have p0 : wr.cell? ⟨b, off + k * 15, none⟩ = some (.int .u8 x.kind) := ROW.out wr hb 0 _ rfl
      have p1 : wr.cell? ⟨b, off + k * 15 + 1, none⟩ = some (.string x.o.handle) := ROW.out wr hb 1 _ rfl
      have p2 : wr.cell? ⟨b, off + k * 15 + 2, none⟩ = some (.int .u8 x.o.kind) := ROW.out wr hb 2 _ rfl
      have p3 : wr.cell? ⟨b, off + k * 15 + 3, none⟩ = some (.string x.o.parent) := ROW.out wr hb 3 _ rfl
      have p4 : wr.cell? ⟨b, off + k * 15 + 4, none⟩ = some (.int .u8 x.o.typ) := ROW.out wr hb 4 _ rfl
      have p5 : wr.cell? ⟨b, off + k * 15 + 5, none⟩ = some (.string x.o.ref) := ROW.out wr hb 5 _ rfl
      have p6 : wr.cell? ⟨b, off + k * 15 + 6, none⟩ = some (.int .i64 x.o.lo) := ROW.out wr hb 6 _ rfl
      have p7 : wr.cell? ⟨b, off + k * 15 + 7, none⟩ = some (.int .i64 x.o.hi) := ROW.out wr hb 7 _ rfl
      have p8 : wr.cell? ⟨b, off + k * 15 + 8, none⟩ = some (.int .u8 x.o.digits) := ROW.out wr hb 8 _ rfl
      have p9 : wr.cell? ⟨b, off + k * 15 + 9, none⟩ = some (.bool x.o.on) := ROW.out wr hb 9 _ rfl
      have p10 : wr.cell? ⟨b, off + k * 15 + 10, none⟩ = some (.bool x.o.has) := ROW.out wr hb 10 _ rfl
      have p11 : wr.cell? ⟨b, off + k * 15 + 11, none⟩ = some (.int .i64 x.o.value) := ROW.out wr hb 11 _ rfl
      have p12 : wr.cell? ⟨b, off + k * 15 + 12, none⟩ = some (.int .i64 x.o.low) := ROW.out wr hb 12 _ rfl
      have p13 : wr.cell? ⟨b, off + k * 15 + 13, none⟩ = some (.int .i64 x.o.high) := ROW.out wr hb 13 _ rfl
      have p14 : wr.cell? ⟨b, off + k * 15 + 14, none⟩ = some (.int .u8 x.o.assoc) := ROW.out wr hb 14 _ rfl
      rw [hsx] at CL
      cases sx with
      | false =>
        have HR0 : Hid (r = none) := Lib.hid (HNO.out (by exact hsx))
        go_wp2_with (go_at_call 58; ((refine (CL.out _).mono ?_); rintro e w3 ⟨rfl, k3⟩; have K3 := Lib.hid (bThen HB.out k3); have k3h := Lib.hid k3; clear k3 p0 p1 p2 p3 p4 p5 p6 p7 p8 p9 p10 p11 p12 p13 p14))
        go_ret2
        exact ⟨_, 3, rfl, by rw [HR0.out]; exact .no', K3.out⟩
      | true =>
        have hsh : codC.short x = true := hsx
        by_cases h6 : 64 < l.length
        · have i6 : (64 : Int) < (l.length : Int) := by omega
          have HR0 : Hid (r = none) := Lib.hid (HNL.out h6)
          go_wp2_with (go_at_call 58; ((refine (CL.out _).mono ?_); rintro e w3 ⟨rfl, k3⟩; have K3 := Lib.hid (bThen HB.out k3); have k3h := Lib.hid k3; clear k3 p0 p1 p2 p3 p4 p5 p6 p7 p8 p9 p10 p11 p12 p13 p14; skip))
          go_ret2
          exact ⟨_, 3, rfl, by rw [HR0.out]; exact .no', K3.out⟩
        · have i6 : ¬ (64 : Int) < (l.length : Int) := by omega
          have HA2 := Lib.hid (HA1.out hsh)
          have HXL : Hid ((numB l.length ++ rk).length + (codC.B x).length ≤ 1000000) := Lib.hid (by have := HN10.out; have := HLX.out; have := HLE.out; rw [List.length_append]; omega)
          go_wp2_with (first
            | (go_at_call 58; ((refine (CL.out _).mono ?_); rintro e w3 ⟨rfl, k3⟩; have K3 := Lib.hid (bThen HB.out k3); have k3h := Lib.hid k3; clear k3 p0 p1 p2 p3 p4 p5 p6 p7 p8 p9 p10 p11 p12 p13 p14; have q0 : w3.cell? ⟨b, off + k * 15, none⟩ = some (.int .u8 x.kind) := ROW.out w3 K3.out 0 _ rfl; have q1 : w3.cell? ⟨b, off + k * 15 + 1, none⟩ = some (.string x.o.handle) := ROW.out w3 K3.out 1 _ rfl; have q2 : w3.cell? ⟨b, off + k * 15 + 2, none⟩ = some (.int .u8 x.o.kind) := ROW.out w3 K3.out 2 _ rfl; have q3 : w3.cell? ⟨b, off + k * 15 + 3, none⟩ = some (.string x.o.parent) := ROW.out w3 K3.out 3 _ rfl; have q4 : w3.cell? ⟨b, off + k * 15 + 4, none⟩ = some (.int .u8 x.o.typ) := ROW.out w3 K3.out 4 _ rfl; have q5 : w3.cell? ⟨b, off + k * 15 + 5, none⟩ = some (.string x.o.ref) := ROW.out w3 K3.out 5 _ rfl; have q6 : w3.cell? ⟨b, off + k * 15 + 6, none⟩ = some (.int .i64 x.o.lo) := ROW.out w3 K3.out 6 _ rfl; have q7 : w3.cell? ⟨b, off + k * 15 + 7, none⟩ = some (.int .i64 x.o.hi) := ROW.out w3 K3.out 7 _ rfl; have q8 : w3.cell? ⟨b, off + k * 15 + 8, none⟩ = some (.int .u8 x.o.digits) := ROW.out w3 K3.out 8 _ rfl; have q9 : w3.cell? ⟨b, off + k * 15 + 9, none⟩ = some (.bool x.o.on) := ROW.out w3 K3.out 9 _ rfl; have q10 : w3.cell? ⟨b, off + k * 15 + 10, none⟩ = some (.bool x.o.has) := ROW.out w3 K3.out 10 _ rfl; have q11 : w3.cell? ⟨b, off + k * 15 + 11, none⟩ = some (.int .i64 x.o.value) := ROW.out w3 K3.out 11 _ rfl; have q12 : w3.cell? ⟨b, off + k * 15 + 12, none⟩ = some (.int .i64 x.o.low) := ROW.out w3 K3.out 12 _ rfl; have q13 : w3.cell? ⟨b, off + k * 15 + 13, none⟩ = some (.int .i64 x.o.high) := ROW.out w3 K3.out 13 _ rfl; have q14 : w3.cell? ⟨b, off + k * 15 + 14, none⟩ = some (.int .u8 x.o.assoc) := ROW.out w3 K3.out 14 _ rfl))
            | (go_at_call 61; ((refine (CO.out _).mono ?_); rintro e w4 ⟨Ao, co, rfl, ro, k4⟩; have RO := Lib.hid ro; have K4 := Lib.hid (bThen K3.out k4); have O4 := Lib.hid (hO.out.below (bThen k3h.out k4)); clear ro k4))
            | (at_builtin; refine wpList_spreadK u8K rfl (.tmp 27) (.tmp 32) rfl w.heap.size _ _ rfl O4.out w4.heap.size Ao _ co _ rfl rfl RO.out ?c1 ?c2 ?_))
          case c1 => exact HXL.out
          case c2 => exact K4.out.size
          intro v5 w5 o5 g5 f5
          have K5 := Lib.hid (K4.out.grown g5 K4.out.size (fun a ha => (O4.out.lt a ha).1))
          have O5 := Lib.hid o5
          clear o5 g5
          go_wp2
          go_roundw
          case rel => exact ⟨k + 1, by go_num, by omega, .inr (by omega), HA2, Lib.hid (by rw [HN.out]; exact O5.out), K5.out⟩
          case measure => (simp [intOf]; try omega)
    · obtain rfl : k = l.length := by omega
      have i1 : ¬ (l.length : Int) < (l.length : Int) := by omega
      have h64' : l.length ≤ 64 := by omega
      rw [List.take_length] at hA hO
      have HRR := Lib.hid (HYE.out h64' hA.out)
      obtain ⟨Af, cf, rfl, rf, hcf, _⟩ := hO.out.form
      have CW := Lib.hid (refWhole_any _ Af cf wr rf hcf (nn_of rf (by rw [List.length_append]; have := YX.numB_pos l.length; omega)))
      clear HYE HNL HNS HFF rf hcf hO
      generalize numB l.length ++ encL codC l = t at *
      go_wp2_with (go_at_call 97; ((refine CW.out.mono ?_); rintro e w6 ⟨v, n, rfl, b6, k6⟩; have B6 := Lib.hid b6; have K6 := Lib.hid (bThen HB.out k6); clear b6 k6))
      go_ret2
      exact ⟨v, n, rfl, by rw [HRR.out]; exact B6.out, K6.out⟩
end Go.Proofs.YtkgjgbenfpkekaaGreat.PX
/-
  WALK: the document's Entries.
-/
namespace Go.Proofs.YtkgjgbenfpkekaaGreat.PX
open Go.RowKit HL
open IX (ptr El cellsK cellsK_at cellsK_len OwnK RdK Kept step_spreadK wpList_spreadK)
open YX (numB rdU rdB rdT rdS rdI addW intN natI rest told u8K Own own1 u8n)
open DX (Ch ch chCells chK chs_at)
open WX (obK obs_at)
set_option maxRecDepth 100000
set_option linter.unusedVariables false
set_option linter.unusedSimpArgs false

set_option maxHeartbeats 8000000 in
theorem refEntries_any (A : Option Addr) (c : Nat) (l : List En) (w : World) (h : RdK enK w w.heap.size A l) (hF : ∀ x ∈ l, FineE x) (hn : l.length ≤ 1000) :
    Calls Tryz.prog 53 #[.slice A l.length c] w fun e w' => Bts w (writeL codE l) e w' := by
  have H := Lib.hid h
  have hu : IntKind.u64.wrap (l.length : Int) = (l.length : Int) := YX.wU (by omega)
  have CU := Lib.hid (fun W => YX.refU_any l.length (by omega) _ W rfl)
  have HN10 := Lib.hid (numB_le (show l.length < 18446744073709551616 by omega))
  obtain ⟨r, hr⟩ : ∃ r, writeL codE l = r := ⟨_, rfl⟩
  have HNL : Hid (64 < l.length → r = none) := Lib.hid (fun g => by rw [← hr]; exact writeL_long _ g)
  have HNS : Hid (∀ k (g : k < l.length), codE.short l[k] = false → r = none) := Lib.hid (fun k g q => by rw [← hr]; exact writeL_no _ (List.getElem_mem g) q)
  have HYE : Hid (l.length ≤ 64 → l.all codE.short = true → r = capB (numB l.length ++ encL codE l)) := Lib.hid (fun g q => by rw [← hr]; exact writeL_cap _ g q)
  have HFF := Lib.hid hF
  rw [hr]
  clear h hF hr
  go_enter Tryz.func53, Tryz.ntmps53
  go_wp2_with (go_at_call 60; ((refine (CU.out _).mono ?_); rintro e w2 ⟨v2, rfl, o2, k2⟩; have O2 := Lib.hid o2; have K2 := Lib.hid k2; clear o2 k2))
  go_loopw [4, 5] (fun v i wr => ∃ k : Nat, i = .int .i64 k ∧ k ≤ l.length ∧ (k = 0 ∨ l.length ≤ 64) ∧ Hid ((l.take k).all codE.short = true) ∧ Hid (OwnK u8K wr w.heap.size v (numB l.length ++ encL codE (l.take k))) ∧ Below w.heap.size w wr) (fun _ i _ => l.length - (intOf i).toNat)
  case atStart => exact ⟨0, rfl, by omega, .inl rfl, Lib.hid rfl, Lib.hid (by simpa [encL] using O2.out), K2.out⟩
  case round =>
    obtain ⟨k, rfl, hk, h64, hA, hO, hb⟩ := hrel
    have HB := Lib.hid hb
    clear O2 K2
    by_cases hlt : k < l.length
    · have i1 : (k : Int) < (l.length : Int) := by omega
      obtain ⟨b, off, rfl, hbb, hcc⟩ : ∃ b off, A = some ⟨b, off, none⟩ ∧ b < w.heap.size ∧ ∀ W, Below w.heap.size w W → ∀ i u, (enC l[k])[i]? = some u → W.cell? ⟨b, off + k * 18 + i, none⟩ = some u := by
        rcases H.out with q | ⟨b, off, e, hb2, hc2⟩
        · rw [q] at hlt; simp at hlt
        · refine ⟨b, off, e, hb2, fun W q i u hu => ?_⟩
          rw [Nat.add_assoc]
          exact (q.cell (p := ⟨b, _, none⟩) hb2).trans (hc2 _ _ (cellsK_at enK (List.getElem?_eq_getElem hlt) (i := i) (u := u) (by rw [← hu]; exact Array.getElem?_toList)))
      have ROW := Lib.hid hcc
      have hx : l[k] ∈ l := List.getElem_mem hlt
      have HN := Lib.hid (encL_next codE hlt)
      have HA1 : Hid (codE.short l[k] = true → (l.take (k + 1)).all codE.short = true) := Lib.hid (fun q => by rw [List.take_succ_eq_append_getElem hlt, List.all_append, hA.out]; simp [q])
      have HNO := Lib.hid (HNS.out k hlt)
      have hFx := HFF.out _ hx
      have CO := Lib.hid (fun W => (refEntry_any l[k] W hFx).mono fun _ _ => own_tel)
      have HLX := Lib.hid (codE.b_len l[k] hFx)
      have HLE := Lib.hid (encL_len codE (l.take k) (fun x hx => HFF.out x (List.mem_of_mem_take hx)))
      have hlk : (l.take k).length = k := by rw [List.length_take]; omega
      have CL := Lib.hid (fun W => refLong_any l[k].o W)
      rw [hlk] at HLE
      clear hcc hx hFx hlk HNS HFF
      generalize l[k] = x at *
      generalize encL codE (l.take k) = rk at *
      obtain ⟨sx, hsx⟩ : ∃ sx, objShort x.o = sx := ⟨_, rfl⟩
      have p0 : wr.cell? ⟨b, off + k * 18, none⟩ = some (.string x.handle) := ROW.out wr hb 0 _ rfl
      have p1 : wr.cell? ⟨b, off + k * 18 + 1, none⟩ = some (.bool x.there) := ROW.out wr hb 1 _ rfl
      have p2 : wr.cell? ⟨b, off + k * 18 + 2, none⟩ = some (.string x.o.handle) := ROW.out wr hb 2 _ rfl
      have p3 : wr.cell? ⟨b, off + k * 18 + 3, none⟩ = some (.int .u8 x.o.kind) := ROW.out wr hb 3 _ rfl
      have p4 : wr.cell? ⟨b, off + k * 18 + 4, none⟩ = some (.string x.o.parent) := ROW.out wr hb 4 _ rfl
      have p5 : wr.cell? ⟨b, off + k * 18 + 5, none⟩ = some (.int .u8 x.o.typ) := ROW.out wr hb 5 _ rfl
      have p6 : wr.cell? ⟨b, off + k * 18 + 6, none⟩ = some (.string x.o.ref) := ROW.out wr hb 6 _ rfl
      have p7 : wr.cell? ⟨b, off + k * 18 + 7, none⟩ = some (.int .i64 x.o.lo) := ROW.out wr hb 7 _ rfl
      have p8 : wr.cell? ⟨b, off + k * 18 + 8, none⟩ = some (.int .i64 x.o.hi) := ROW.out wr hb 8 _ rfl
      have p9 : wr.cell? ⟨b, off + k * 18 + 9, none⟩ = some (.int .u8 x.o.digits) := ROW.out wr hb 9 _ rfl
      have p10 : wr.cell? ⟨b, off + k * 18 + 10, none⟩ = some (.bool x.o.on) := ROW.out wr hb 10 _ rfl
      have p11 : wr.cell? ⟨b, off + k * 18 + 11, none⟩ = some (.bool x.o.has) := ROW.out wr hb 11 _ rfl
      have p12 : wr.cell? ⟨b, off + k * 18 + 12, none⟩ = some (.int .i64 x.o.value) := ROW.out wr hb 12 _ rfl
      have p13 : wr.cell? ⟨b, off + k * 18 + 13, none⟩ = some (.int .i64 x.o.low) := ROW.out wr hb 13 _ rfl
      have p14 : wr.cell? ⟨b, off + k * 18 + 14, none⟩ = some (.int .i64 x.o.high) := ROW.out wr hb 14 _ rfl
      have p15 : wr.cell? ⟨b, off + k * 18 + 15, none⟩ = some (.int .u8 x.o.assoc) := ROW.out wr hb 15 _ rfl
      have p16 : wr.cell? ⟨b, off + k * 18 + 16, none⟩ = some (.int .i64 x.desc) := ROW.out wr hb 16 _ rfl
      have p17 : wr.cell? ⟨b, off + k * 18 + 17, none⟩ = some (.int .i64 x.state) := ROW.out wr hb 17 _ rfl
      rw [hsx] at CL
      cases sx with
      | false =>
        have HR0 : Hid (r = none) := Lib.hid (HNO.out (by show enShort x = false; unfold enShort; rw [hsx]; simp))
        go_wp2_with (go_at_call 58; ((refine (CL.out _).mono ?_); rintro e w3 ⟨rfl, k3⟩; have K3 := Lib.hid (bThen HB.out k3); have k3h := Lib.hid k3; clear k3 p0 p1 p2 p3 p4 p5 p6 p7 p8 p9 p10 p11 p12 p13 p14 p15 p16 p17))
        go_ret2
        exact ⟨_, 3, rfl, by rw [HR0.out]; exact .no', K3.out⟩
      | true =>
        by_cases hh : 255 < x.handle.size
        · have i2 : (255 : Int) < (x.handle.size : Int) := by omega
          have HR0 : Hid (r = none) := Lib.hid (HNO.out (by show enShort x = false; unfold enShort; rw [tx_len, decide_eq_false (by omega)]; rfl))
          go_wp2_with (go_at_call 58; ((refine (CL.out _).mono ?_); rintro e w3 ⟨rfl, k3⟩; have K3 := Lib.hid (bThen HB.out k3); have k3h := Lib.hid k3; clear k3 p0 p1 p2 p3 p4 p5 p6 p7 p8 p9 p10 p11 p12 p13 p14 p15 p16 p17; have q0 : w3.cell? ⟨b, off + k * 18, none⟩ = some (.string x.handle) := ROW.out w3 K3.out 0 _ rfl))
          go_ret2
          exact ⟨_, 3, rfl, by rw [HR0.out]; exact .no', K3.out⟩
        have i2 : ¬ (255 : Int) < (x.handle.size : Int) := by omega
        have hsh : codE.short x = true := by show enShort x = true; unfold enShort; rw [hsx, tx_len, decide_eq_true (by omega)]; rfl
        by_cases h6 : 64 < l.length
        · have i6 : (64 : Int) < (l.length : Int) := by omega
          have HR0 : Hid (r = none) := Lib.hid (HNL.out h6)
          go_wp2_with (go_at_call 58; ((refine (CL.out _).mono ?_); rintro e w3 ⟨rfl, k3⟩; have K3 := Lib.hid (bThen HB.out k3); have k3h := Lib.hid k3; clear k3 p0 p1 p2 p3 p4 p5 p6 p7 p8 p9 p10 p11 p12 p13 p14 p15 p16 p17; have q0 : w3.cell? ⟨b, off + k * 18, none⟩ = some (.string x.handle) := ROW.out w3 K3.out 0 _ rfl))
          go_ret2
          exact ⟨_, 3, rfl, by rw [HR0.out]; exact .no', K3.out⟩
        · have i6 : ¬ (64 : Int) < (l.length : Int) := by omega
          have HA2 := Lib.hid (HA1.out hsh)
          have HXL : Hid ((numB l.length ++ rk).length + (codE.B x).length ≤ 1000000) := Lib.hid (by have := HN10.out; have := HLX.out; have := HLE.out; rw [List.length_append]; omega)
          go_wp2_with (first
            | (go_at_call 58; ((refine (CL.out _).mono ?_); rintro e w3 ⟨rfl, k3⟩; have K3 := Lib.hid (bThen HB.out k3); have k3h := Lib.hid k3; clear k3 p0 p1 p2 p3 p4 p5 p6 p7 p8 p9 p10 p11 p12 p13 p14 p15 p16 p17; have q0 : w3.cell? ⟨b, off + k * 18, none⟩ = some (.string x.handle) := ROW.out w3 K3.out 0 _ rfl; have hc3 : w3.rangeAt b (off + k * 18) (enC x).toList := fun j v hv => ROW.out w3 K3.out j v (by rw [← hv]; exact Array.getElem?_toList.symm)))
            | ((show wpList _ _ _ ({ dst := some 40, op := _, type := _, pos := _, after := _, guard := _ } :: _) _ _); (refine wpList_load_mid rfl _ _ rfl b (off + k * 18) rfl (enC x).toList _ hc3 Tryz.underlying103 rfl (by kernel_rfl) ?_))
            | (go_at_call 67; ((refine (CO.out _).mono ?_); rintro e w4 ⟨Ao, co, rfl, ro, k4⟩; have RO := Lib.hid ro; have K4 := Lib.hid (bThen K3.out k4); have O4 := Lib.hid (hO.out.below (bThen k3h.out k4)); clear ro k4))
            | (at_builtin; refine wpList_spreadK u8K rfl (.tmp 36) (.tmp 41) rfl w.heap.size _ _ rfl O4.out w4.heap.size Ao _ co _ rfl rfl RO.out ?c1 ?c2 ?_))
          case c1 => exact HXL.out
          case c2 => exact K4.out.size
          intro v5 w5 o5 g5 f5
          have K5 := Lib.hid (K4.out.grown g5 K4.out.size (fun a ha => (O4.out.lt a ha).1))
          have O5 := Lib.hid o5
          clear o5 g5
          go_wp2
          go_roundw
          case rel => exact ⟨k + 1, by go_num, by omega, .inr (by omega), HA2, Lib.hid (by rw [HN.out]; exact O5.out), K5.out⟩
          case measure => (simp [intOf]; try omega)
    · obtain rfl : k = l.length := by omega
      have i1 : ¬ (l.length : Int) < (l.length : Int) := by omega
      have h64' : l.length ≤ 64 := by omega
      rw [List.take_length] at hA hO
      have HRR := Lib.hid (HYE.out h64' hA.out)
      obtain ⟨Af, cf, rfl, rf, hcf, _⟩ := hO.out.form
      have CW := Lib.hid (refWhole_any _ Af cf wr rf hcf (nn_of rf (by rw [List.length_append]; have := YX.numB_pos l.length; omega)))
      clear HYE HNL HNS HFF rf hcf hO
      generalize numB l.length ++ encL codE l = t at *
      go_wp2_with (go_at_call 97; ((refine CW.out.mono ?_); rintro e w6 ⟨v, n, rfl, b6, k6⟩; have B6 := Lib.hid b6; have K6 := Lib.hid (bThen HB.out k6); clear b6 k6))
      go_ret2
      exact ⟨v, n, rfl, by rw [HRR.out]; exact B6.out, K6.out⟩
end Go.Proofs.YtkgjgbenfpkekaaGreat.PX
