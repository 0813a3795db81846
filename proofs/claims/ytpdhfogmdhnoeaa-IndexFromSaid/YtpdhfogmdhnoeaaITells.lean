/-
  WALK: tells: an index and the document's answer the same.
-/
import Derived.Test.YtpdhfogmdhnoeaaIRefCopy
import Derived.Test.YtpdhfogmdhnoeaaGKit
import Derived.Deep.RegionHeld3
namespace Go.Proofs.Ytpdhfogmdhnoeaa.IX
open Go.RowKit HL
set_option maxRecDepth 100000
set_option linter.unusedVariables false
set_option linter.unusedSimpArgs false

theorem all_form (B : Nat) (v : Value) (l : List Rw) (w : World) (hA : IxAt w B v l) (hn : l.length ≤ 1000000) :
    Calls Try.prog 19 #[ptr B] w fun e w' => ∃ A c, e = .returned (.slice A l.length c) ∧ OwnK strK w' w.heap.size (.slice A l.length c) (keys l) ∧ Below w.heap.size w w' :=
  (all_any B v l w hA hn).mono fun e w' ⟨v', he, ho, hb⟩ => by
    obtain ⟨A, c, rfl, _⟩ := ho.form
    rw [keys_len] at he ho
    exact ⟨A, c, he, ho, hb⟩
theorem from_form (B : Nat) (v : Value) (l : List Rw) (h : Bs) (w : World) (hA : IxAt w B v l) (hn : l.length ≤ 300) {d : List Rw} (hd : l.drop (plc l h) = d) {m : Nat} (hm : d.length = m) :
    Calls Try.prog 24 #[ptr B, str h] w fun e w' => ∃ A1 c1 A2 c2, e = .returned (.tuple #[.slice A1 m c1, .slice A2 m c2, .bool true]) ∧ OwnK strK w' w.heap.size (.slice A1 m c1) (keys d) ∧ OwnK intK w' w.heap.size (.slice A2 m c2) (nums d) ∧ Below w.heap.size w w' :=
  (lawFrom_any B v l h w hA hn).mono fun e w' ⟨v1, v2, he, h1, h2, hb⟩ => by
    rw [hd] at h1 h2
    obtain ⟨A1, c1, rfl, _⟩ := h1.form
    obtain ⟨A2, c2, rfl, _⟩ := h2.form
    rw [keys_len, hm] at he h1
    rw [nums_len, hm] at he h2
    exact ⟨A1, c1, A2, c2, he, h1, h2, hb⟩
theorem same_yes (A1 A2 : Option Addr) (c1 c2 m : Nat) (xs : List Bs) (w : World) (h1 : RdK strK w w.heap.size A1 xs) (h2 : RdK strK w w.heap.size A2 xs) (hm : xs.length = m) (hn : m ≤ 1000000) :
    Calls Try.prog 29 #[.slice A1 m c1, .slice A2 m c2] w fun e w' => e = .returned (.bool true) ∧ Below w.heap.size w w' := by
  subst hm
  refine (same_any A1 A2 c1 c2 xs xs w w.heap.size h1.strs h2.strs (by unfold maxLen; omega) (by unfold maxLen; omega)).mono ?_
  rintro e w' ⟨rfl, hd⟩
  exact ⟨by rw [sameB_t rfl], hd.below _⟩
theorem OwnK.rd {α : Type} {K : El α} {w : World} {base n c : Nat} {A : Option Addr} {l : List α} (h : OwnK K w base (.slice A n c) l) : RdK K w w.heap.size A l := by
  obtain ⟨A', c', e, r, _⟩ := h.form
  cases e
  exact r
set_option maxHeartbeats 8000000 in
theorem tells_any (B X : Nat) (v vH vN : Value) (l : List Rw) (h : Bs) (i : Int) (w : World) (hA : IxAt w B v l) (hR : RfAt w X vH vN l) (hn : l.length ≤ 300) (hh : h.length ≤ maxLen) (hk : ∀ r ∈ l, r.1.length ≤ maxLen) :
    Calls Try.prog 15 #[ptr B, ptr X, str h, .int .i64 i] w fun e w' => e = .returned (.bool true) ∧ Below w.heap.size w w' := by
  obtain ⟨AH, cH, rfl, rdH, hcH⟩ := hR.formH
  obtain ⟨AN, cN, rfl, rdN, hcN⟩ := hR.formN
  have hpl := plc_le l h
  obtain ⟨A2, c2, s2, r2, _, _, _, _⟩ := slice_fromK strK rdH (keys_len l) (p := plc l h) hpl hcH
  obtain ⟨A3, c3, s3, r3, _, _, _, _⟩ := slice_fromK intK rdN (nums_len l) (p := plc l h) hpl hcN
  obtain ⟨m, hm⟩ : ∃ m, l.length - plc l h = m := ⟨_, rfl⟩
  rw [hm] at s2 s3
  have e2 : ∀ W, (Instr.slice 27 (.slice AH l.length cH) (some (.int .i64 (plc l h : Int))) none none).run Try.prog W = .ok (.slice A2 m c2) W := s2
  have e3 : ∀ W, (Instr.slice 28 (.slice AN l.length cN) (some (.int .i64 (plc l h : Int))) none none).run Try.prog W = .ok (.slice A3 m c3) W := s3
  have hdm : (l.drop (plc l h)).length = m := by rw [List.length_drop, hm]
  have hmm : m ≤ 1000000 := by omega
  have HA := Lib.hid hA
  have HR := Lib.hid hR
  have R2 := Lib.hid (r2 w rdH)
  have R3 := Lib.hid (r3 w rdN)
  have RH := Lib.hid rdH
  have hkd : (keys l).drop (plc l h) = keys (l.drop (plc l h)) := by simp [keys]
  have hnd : (nums l).drop (plc l h) = nums (l.drop (plc l h)) := by simp [nums]
  rw [hkd] at R2
  rw [hnd] at R3
  have HKL := Lib.hid (keys_len l)
  have CFrom := Lib.hid (fun W q => from_form B v l h W (hA.then q) hn rfl hdm)
  have HKD : Hid ((keys (l.drop (plc l h))).length = m) := Lib.hid (by rw [keys_len, hdm])
  have HND : Hid ((nums (l.drop (plc l h))).length = m) := Lib.hid (by rw [nums_len, hdm])
  have CF := Lib.hid (find_any B v l h w hA (by omega))
  have CrF := Lib.hid (fun W q => rFind_any X _ _ l h W (hR.then q) (by omega))
  have CA := Lib.hid (fun W q => at_any B v l i W (hA.then q) (by omega))
  have CrA := Lib.hid (fun W q => rAt_any X _ _ l i W (hR.then q) (by omega))
  have CP := Lib.hid (fun W q => place_any B v l h W (hA.then q) (by omega))
  have CrP := Lib.hid (fun W q => rPlace_any X _ _ l h W (hR.then q) (by omega) hh hk)
  have CM := Lib.hid (fun W q => many_any B v l W (hA.then q))
  have CAll := Lib.hid (fun W q => all_form B v l W (hA.then q) (by omega))
  clear hA hR s2 s3 r2 r3 rdH rdN hkd hnd hm hdm hk
  generalize numOf l h = a at *
  generalize hasB l h = b at *
  generalize atH l i = ah at *
  generalize atN l i = an at *
  generalize inB l i = ab at *
  generalize keys (l.drop (plc l h)) = dk at *
  generalize nums (l.drop (plc l h)) = dn at *
  generalize plc l h = p at *
  have hb : Below w.heap.size w w := Below.refl _ _
  go_enter Try.func15, Try.ntmps15
  go_wp2_with (first
    | (go_at_call 22; ((with_reducible refine CF.out.mono ?_); rintro e w1 ⟨rfl, k1⟩; replace hb := bThen hb k1))
    | (go_at_call 35; ((with_reducible refine (CrF.out _ hb).mono ?_); rintro e w2 ⟨rfl, rfl⟩))
    | (go_at_call 23; ((with_reducible refine (CA.out _ hb).mono ?_); rintro e w3 ⟨rfl, k3⟩; replace hb := bThen hb k3))
    | (go_at_call 39; ((with_reducible refine (CrA.out _ hb).mono ?_); rintro e w4 ⟨rfl, k4⟩; replace hb := bThen hb k4))
    | (go_at_call 24; ((with_reducible refine (CFrom.out _ hb).mono ?_); rintro e w5 ⟨F1, d1, F2, d2, rfl, o5, n5, k5⟩; replace hb := bThen hb k5; have K5 := Lib.hid hb; have k5x := Below.refl w5.heap.size w5; have O5 := Lib.hid o5; have N5 := Lib.hid n5; clear o5 n5))
    | (go_at_call 36; ((with_reducible refine (CrP.out _ hb).mono ?_); rintro e w6 ⟨rfl, k6⟩; replace hb := bThen hb k6; replace k5x := bThen k5x k6)))
  have hP : ∀ w', Below w5.heap.size w5 w' → (w'.cell? ⟨X, 0, none⟩ = some (.slice AH l.length cH) ∧ w'.cell? ⟨X, 1, none⟩ = some (.slice AN l.length cN)) := fun w' k => ⟨(HR.out.then (bThen K5.out k)).c0, (HR.out.then (bThen K5.out k)).c1⟩
  clear hb
  have KX := Lib.hid k5x
  clear k5x
  simp only [List.append]
  go_region_held3 (fun w' => (w'.cell? ⟨X, 0, none⟩ = some (.slice AH l.length cH) ∧ w'.cell? ⟨X, 1, none⟩ = some (.slice AN l.length cN)) ∧ Below w5.heap.size w5 w')
    (first | with_reducible assumption | with_reducible exact ⟨hP _ KX.out.drew, KX.out.drew⟩ | with_reducible exact ⟨hP _ (keepD (by assumption) k3), keepD (by assumption) k3⟩)
    (first
    | (go_at_call 25; (with_reducible refine (CP.out _ (bThen K5.out (‹_ ∧ Below w5.heap.size w5 _›).2)).mono ?_); rintro e w7 ⟨rfl, k3⟩)
    | (go_at_call 21; (with_reducible refine (CM.out _ (bThen K5.out (‹_ ∧ Below w5.heap.size w5 _›).2)).mono ?_); rintro e w8 ⟨rfl, rfl⟩)
    | (go_at_call 19; (with_reducible refine (CAll.out _ (bThen K5.out (‹_ ∧ Below w5.heap.size w5 _›).2)).mono ?_); rintro e w9 ⟨F3, d3, rfl, o9, k3⟩; have O9 := Lib.hid o9; clear o9)
    | (go_at_call 29; (with_reducible refine (same_yes F3 AH d3 cH l.length (keys l) _ O9.out.rd ((RH.out.below (bThen K5.out (‹_ ∧ Below w5.heap.size w5 _›).2)).more (bThen K5.out (‹_ ∧ Below w5.heap.size w5 _›).2).size) HKL.out (by omega)).mono ?_); rintro e w10 ⟨rfl, k3⟩)
    | (go_at_call 29; (with_reducible refine (same_yes F1 A2 d1 c2 m dk _ (O5.out.below (‹_ ∧ Below w5.heap.size w5 _›).2).rd ((R2.out.below (bThen K5.out (‹_ ∧ Below w5.heap.size w5 _›).2)).more (bThen K5.out (‹_ ∧ Below w5.heap.size w5 _›).2).size) HKD.out hmm).mono ?_); rintro e w11 ⟨rfl, k3⟩)
    | (go_at_call 40; (with_reducible refine (iSame_any F2 A3 d2 c3 m dn _ _ (N5.out.below (‹_ ∧ Below w5.heap.size w5 _›).2).rd.ints ((R3.out.below (bThen K5.out (‹_ ∧ Below w5.heap.size w5 _›).2)).more (bThen K5.out (‹_ ∧ Below w5.heap.size w5 _›).2).size).ints HND.out hmm).mono ?_); rintro e w12 ⟨rfl, k3⟩))
  go_wp2_with fail
  go_ret
  exact ⟨rfl, bThen K5.out (‹_ ∧ Below w5.heap.size w5 _›).2⟩
end Go.Proofs.Ytpdhfogmdhnoeaa.IX
