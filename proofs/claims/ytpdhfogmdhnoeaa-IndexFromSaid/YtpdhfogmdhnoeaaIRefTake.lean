/-
  WALK: the document's Take.
-/
import Derived.Test.YtpdhfogmdhnoeaaITakeRegion
namespace Go.Proofs.Ytpdhfogmdhnoeaa.IX
open Go.RowKit HL
set_option maxRecDepth 100000
set_option linter.unusedVariables false
set_option linter.unusedSimpArgs false

theorem RdK.take {α : Type} {K : El α} {w : World} {B : Nat} {A : Option Addr} {l : List α} (h : RdK K w B A l) (p : Nat) : RdK K w B A (l.take p) := by
  rcases h with rfl | ⟨b, off, e, hb, hc⟩
  · exact .inl (by simp)
  · refine .inr ⟨b, off, e, hb, fun m u hu => ?_⟩
    rw [← cellsK_take, List.getElem?_take] at hu
    split at hu
    · exact hc m u hu
    · cases hu
theorem keys_del (l : List Rw) (p : Nat) : (keys l).take p ++ (keys l).drop (p + 1) = keys (l.take p ++ l.drop (p + 1)) := by simp [keys]
theorem nums_del (l : List Rw) (p : Nat) : (nums l).take p ++ (nums l).drop (p + 1) = nums (l.take p ++ l.drop (p + 1)) := by simp [nums]
theorem rTake_no (X : Nat) (vH vN : Value) (l : List Rw) (h : Bs) (w : World) (hR : RfAt w X vH vN l) (hn : l.length ≤ 1000000) (k : hasB l h = false) :
    Calls Try.prog 12 #[ptr X, str h] w fun e w' => e = .returned (.tuple #[.int .i64 (numOf l h), .int .i64 (takeE l h)]) ∧ takeL l h = l ∧ w = w' := by
  have CF := Lib.hid (rFind_any X vH vN l h w hR hn)
  have HV := Lib.hid (show takeE l h = 70 ∧ takeL l h = l ∧ numOf l h = 0 by simp [takeE, takeL, numOf, k])
  rw [k] at CF
  clear hR k
  go_enter Try.func12, Try.ntmps12
  go_wp2_with (go_at_call 35; ((with_reducible refine CF.out.mono ?_); rintro e w3 ⟨rfl, rfl⟩))
  go_ret2
  exact ⟨by rw [HV.out.1, HV.out.2.2]; rfl, HV.out.2.1, rfl⟩
set_option maxHeartbeats 4000000 in
theorem rTake_ok (X : Nat) (vH vN : Value) (l : List Rw) (h : Bs) (w : World) (hR : RfAt w X vH vN l) (hn : l.length ≤ 100000) (hh : h.length ≤ maxLen) (hk : ∀ r ∈ l, r.1.length ≤ maxLen) (k : hasB l h = true) :
    Calls Try.prog 12 #[ptr X, str h] w fun e w' => ∃ vH' vN', e = .returned (.tuple #[.int .i64 (numOf l h), .int .i64 0]) ∧ RfAt w' X vH' vN' (l.take (plc l h) ++ l.drop (plc l h + 1)) ∧
      (∀ k, vH'.ownBlock = some k → w.heap.size ≤ k) ∧ (∀ k, vN'.ownBlock = some k → w.heap.size ≤ k) ∧ Kept w w' (fun k => k ≠ X) := by
  have CF := Lib.hid (rFind_any X vH vN l h w hR (by omega))
  rw [k] at CF
  have CP := Lib.hid (rPlace_any X vH vN l h w hR (by omega) hh hk)
  have HU := Lib.hid (up_del hR.up h)
  unfold del at HU
  have hp := (has_at hR.up k).1
  obtain ⟨AH, cH, rfl, rdH, hcH⟩ := hR.formH
  obtain ⟨AN, cN, rfl, rdN, hcN⟩ := hR.formN
  have hp1 : plc l h + 1 ≤ l.length := hp
  obtain ⟨A2, c2, s2, r2, _, _, _, _⟩ := slice_fromK strK rdH (keys_len l) (p := plc l h + 1) hp1 hcH
  obtain ⟨A3, c3, s3, r3, _, _, hab, _⟩ := slice_fromK intK rdN (nums_len l) (p := plc l h + 1) hp1 hcN
  have hpl : plc l h ≤ l.length := by omega
  have t2 := fun W => slice_toK strK (A := AH) (n := l.length) (c := cH) (p := plc l h) hpl hcH W
  have t3 := fun W => slice_toK intK (A := AN) (n := l.length) (c := cN) (p := plc l h) hpl hcN W
  have e2 : ∀ W, (Instr.slice 27 (.slice AH l.length cH) (some (.int .i64 ((plc l h : Int) + 1))) none none).run Try.prog W = .ok (.slice A2 (l.length - (plc l h + 1)) c2) W := s2
  have e3 : ∀ W, (Instr.slice 28 (.slice AN l.length cN) (some (.int .i64 ((plc l h : Int) + 1))) none none).run Try.prog W = .ok (.slice A3 (l.length - (plc l h + 1)) c3) W := s3
  have e4 : ∀ W, (Instr.slice 27 (.slice AH l.length cH) none (some (.int .i64 (plc l h : Int))) none).run Try.prog W = .ok (.slice AH (plc l h) cH) W := t2
  have e5 : ∀ W, (Instr.slice 28 (.slice AN l.length cN) none (some (.int .i64 (plc l h : Int))) none).run Try.prog W = .ok (.slice AN (plc l h) cN) W := t3
  have HR := Lib.hid hR
  have HAB := Lib.hid hab
  clear hab
  have R2 := Lib.hid (r2 w rdH)
  have R3 := Lib.hid (r3 w rdN)
  have Q2 := Lib.hid (rdH.take (plc l h))
  have Q3 := Lib.hid (rdN.take (plc l h))
  have hd1 : ((keys l).drop (plc l h + 1)).length = l.length - (plc l h + 1) := by simp [keys_len]
  have hd2 : ((nums l).drop (plc l h + 1)).length = l.length - (plc l h + 1) := by simp [nums_len]
  have ht1 : ((keys l).take (plc l h)).length = plc l h := by simp [keys_len]; omega
  have ht2 : ((nums l).take (plc l h)).length = plc l h := by simp [nums_len]; omega
  have HD1 := Lib.hid hd1
  have HD2 := Lib.hid hd2
  have HT1 := Lib.hid ht1
  have HT2 := Lib.hid ht2
  have HK := Lib.hid (keys_del l (plc l h))
  have HN := Lib.hid (nums_del l (plc l h))
  have hwr : IntKind.i64.wrap ((plc l h : Int) + 1) = (plc l h : Int) + 1 := IntWalk.i64_in _ (by omega)
  clear hR hh hk s2 s3 t2 t3 r2 r3 rdH rdN hd1 hd2 ht1 ht2 k
  generalize (keys l).drop (plc l h + 1) = dH at *
  generalize (nums l).drop (plc l h + 1) = dN at *
  generalize (keys l).take (plc l h) = tH at *
  generalize (nums l).take (plc l h) = tN at *
  generalize hL2 : l.take (plc l h) ++ l.drop (plc l h + 1) = l2 at *
  have HL2 := Lib.hid hL2
  clear hL2
  generalize plc l h = p at *
  go_enter Try.func12, Try.ntmps12
  go_wp2_with (first
    | (go_at_call 35; ((with_reducible refine CF.out.mono ?_); rintro e w3 ⟨rfl, rfl⟩))
    | (go_at_call 36; ((with_reducible refine CP.out.mono ?_); rintro e wa ⟨rfl, ka⟩; have KA := Lib.hid ka; have x0 := (HR.out.then ka).c0; have zx := (HR.out.then ka).a.lt)))
  have M0 := Lib.hid (HR.out.then ka).a
  have bk := KA.out
  clear x0 zx
  refine wp_mono (take_region5 (p := p) (m := l.length - (p + 1)) M0.out e2 e4 HT1.out HD1.out (by omega) (by omega) ((Q2.out.below KA.out).more KA.out.size) ((R2.out.below KA.out).more KA.out.size) ?hQ) NQ.then
  case hQ =>
    intro A8 c8 w1 u20 u21 u22 u23 u24 u25 u26 u27 u28 u29 u30 u31 u32 u33 u34 u35 u36 u37 u38 o1 a1 k1
    have O1 := Lib.hid o1
    have M1 := Lib.hid a1
    have K1 := Lib.hid k1
    have N1 := Lib.hid ((HR.out.then KA.out).n.kept k1 (fun b e e2 => HR.out.nn (by rw [e, e2])))
    have RQ3 := Lib.hid (((Q3.out.below KA.out).more KA.out.size).kept k1 (Nat.le_refl _) (fun a e e2 => HR.out.nn (by rw [e]; show some a.block = _; rw [e2])))
    have RR3 := Lib.hid (((R3.out.below KA.out).more KA.out.size).kept k1 (Nat.le_refl _) (fun a e e2 => by
      obtain ⟨a', ea, eb⟩ := HAB.out a e
      exact HR.out.nn (by rw [ea]; show some a'.block = _; rw [← eb, e2])))
    clear o1 a1 k1
    go_wp2
    refine wp_mono (take_region6 (p := p) (m := l.length - (p + 1)) M1.out e3 e5 HT2.out HD2.out (by omega) (by omega) (RQ3.out.more K1.out.size) (RR3.out.more K1.out.size) ?hQ2) NQ.then
    case hQ2 =>
      intro A9 c9 w2 u39 u40 u41 u42 u43 u44 u45 u46 u47 u48 u49 u50 u51 u52 u53 u54 u55 u56 u57 o2 a2 k2
      have O2 := Lib.hid o2
      have M2 := Lib.hid a2
      have K2 := Lib.hid k2
      clear o2 a2 k2
      go_wp2
      go_ret2
      have hb1 := KA.out.size
      have hb2 := K1.out.size
      have hX := HR.out.a.lt
      refine ⟨_, _, rfl, ⟨M2.out, ?_, ?_, ?_, ?_, HU.out⟩, fun k e => ?_, fun k e => ?_, ((Kept.of_below KA.out).trans K1.out).trans K2.out⟩
      · rw [← HK.out]
        exact (O1.out.kept K2.out (fun b e e2 => by have := (O1.out.lt b e).1; omega)).base (Nat.zero_le _)
      · rw [← HN.out]
        exact O2.out.base (Nat.zero_le _)
      · intro e
        have := (O1.out.lt X e).1; omega
      · intro e
        have := (O2.out.lt X e).1; omega
      · have := (O1.out.lt k e).1; omega
      · have := (O2.out.lt k e).1; omega
theorem rTake_any (X : Nat) (vH vN : Value) (l : List Rw) (h : Bs) (w : World) (hR : RfAt w X vH vN l) (hn : l.length ≤ 100000) (hh : h.length ≤ maxLen) (hk : ∀ r ∈ l, r.1.length ≤ maxLen) :
    Calls Try.prog 12 #[ptr X, str h] w fun e w' => ∃ vH' vN', e = .returned (.tuple #[.int .i64 (numOf l h), .int .i64 (takeE l h)]) ∧ RfAt w' X vH' vN' (takeL l h) ∧
      (∀ k, vH'.ownBlock = some k → vH.ownBlock = some k ∨ w.heap.size ≤ k) ∧ (∀ k, vN'.ownBlock = some k → vN.ownBlock = some k ∨ w.heap.size ≤ k) ∧ Kept w w' (fun k => k ≠ X ∧ vH.ownBlock ≠ some k ∧ vN.ownBlock ≠ some k) := by
  cases k : hasB l h with
  | false =>
    refine (rTake_no X vH vN l h w hR (by omega) k).mono ?_
    rintro e w' ⟨rfl, e2, rfl⟩
    exact ⟨vH, vN, rfl, by rw [e2]; exact hR, fun k h => .inl h, fun k h => .inl h, .refl _ _⟩
  | true =>
    have e1 : takeE l h = 0 := by simp [takeE, k]
    have e2 : takeL l h = l.take (plc l h) ++ l.drop (plc l h + 1) := by simp [takeL, k, del]
    rw [e1, e2]
    refine (rTake_ok X vH vN l h w hR hn hh hk k).mono ?_
    rintro e w' ⟨v1, v2, rfl, r, f1, f2, kk⟩
    exact ⟨v1, v2, rfl, r, fun k e => .inr (f1 k e), fun k e => .inr (f2 k e), kk.weak (fun k p => p.1)⟩
end Go.Proofs.Ytpdhfogmdhnoeaa.IX
