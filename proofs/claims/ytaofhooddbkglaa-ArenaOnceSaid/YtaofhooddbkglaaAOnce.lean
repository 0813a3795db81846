/-
  WALK: the law ArenaOnce.
-/
import Derived.Test.YtaofhooddbkglaaAAges
import Derived.Test.YtaofhooddbkglaaARefNew
namespace Go.Proofs.Ytaofhooddbkglaa
open Go.RowKit
set_option maxRecDepth 100000
set_option linter.unusedVariables false
set_option linter.unusedSimpArgs false

/-- The row of what is held, as cells. -/
def hC (l : List Bool) : Array Value := (l.map Value.bool).toArray
theorem hC_size (l : List Bool) : (hC l).size = l.length := by simp [hC]
theorem hC_get {l : List Bool} {i : Nat} (h : i < l.length) : (hC l)[i]? = some (.bool (l.getD i false)) := by simp [hC, h]
theorem hC_set (l : List Bool) (k : Nat) (b : Bool) : (hC l).setIfInBounds k (.bool b) = hC (l.set k b) := by simp [hC, List.map_set]
theorem hC_new (m : Nat) : mkB m = hC (newS m).tk := by unfold mkB hC newS; rw [List.map_replicate, List.toArray_replicate]
theorem AtC.far {W W1 : World} {B Hd : Nat} {C : Array Value} (h : AtC W Hd C) (k : Kept W W1 (· ≠ B)) (hne : Hd ≠ B) : AtC W1 Hd C := h.kept k hne
theorem One.hold {w0 W : World} {B Hd : Nat} {s : Ar} (h : One w0 W B s) (h0 : w0.heap.size ≤ Hd) (hne : B ≠ Hd) (i : Nat) (v : Value) : One w0 (W.setCell ⟨Hd, i, none⟩ v) B s :=
  ⟨h.a.store (p := ⟨Hd, i, none⟩) (fun e => hne e.symm) v, h.bel.setCell (p := ⟨Hd, i, none⟩) h0 v, h.ok, h.b0⟩
theorem giveE_t {s : Ar} {k : Int} (h : takenB s k = true) : giveE s k = 0 := by unfold giveE; rw [if_pos h]
theorem giveE_f {s : Ar} {k : Int} (h : takenB s k = false) : giveE s k = 60 := by unfold giveE; rw [if_neg (by rw [h]; decide)]
theorem giveS_t {s : Ar} {n : Nat} (h : takenB s n = true) : giveS s n = ⟨s.tk.set n false, s.ag⟩ := by unfold giveS; rw [if_pos h]; rfl
theorem giveS_f {s : Ar} {k : Int} (h : takenB s k = false) : giveS s k = s := by unfold giveS; rw [if_neg (by rw [h]; decide)]
set_option maxHeartbeats 8000000 in
theorem once_walk {A : Option Addr} (n : Int) (l : List Act1) (c : Nat) (w : World) (hr : RdA w w.heap.size A l) (hx : ∀ x ∈ l, -9223372036854775808 ≤ x.k ∧ x.k ≤ 9223372036854775807) (hm : l.length ≤ maxLen) :
    Calls Try.prog 6 #[.int .i64 n, .slice A l.length c] w fun e w' => e = .returned (.bool true) ∧ Below w.heap.size w w' := by
  unfold maxLen at hm
  have hb : Below w.heap.size w w := Below.refl _ _
  have CA := Lib.hid (awake_then hb)
  by_cases hn : n < 1 ∨ 64 < n
  · rcases hn with hn | hn
    · clear hb
      go_enter Try.func6, Try.ntmps6
      go_wp2_with (go_at_call 27; ((with_reducible refine CA.out.mono ?_); rintro e w1 ⟨rfl, hb⟩))
      go_ret
      exact ⟨rfl, hb⟩
    · have h1 : ¬ n < 1 := by omega
      clear hb
      go_enter Try.func6, Try.ntmps6
      go_wp2_with (go_at_call 27; ((with_reducible refine CA.out.mono ?_); rintro e w1 ⟨rfl, hb⟩))
      go_ret
      exact ⟨rfl, hb⟩
  have h1 : ¬ n < 1 := by omega
  have h64 : ¬ 64 < n := by omega
  by_cases hl : 300 < l.length
  · have i1 : (300 : Int) < l.length := by omega
    clear hb
    go_enter Try.func6, Try.ntmps6
    go_wp2_with (go_at_call 27; ((with_reducible refine CA.out.mono ?_); rintro e w1 ⟨rfl, hb⟩))
    go_ret
    exact ⟨rfl, hb⟩
  have i1 : ¬ (300 : Int) < l.length := by omega
  obtain ⟨m, rfl⟩ := Int.eq_ofNat_of_zero_le (show 0 ≤ n by omega)
  have m1 : 1 ≤ m := by omega
  have m2 : m ≤ 64 := by omega
  have HRd := Lib.hid hr
  have HX := Lib.hid hx
  have C1 := Lib.hid (fun W => new_yes m W m1 m2)
  have hmk := make_B m m2
  clear hr hl hn hb hx
  go_enter Try.func6, Try.ntmps6
  go_wp2_with (first
    | (go_at_call 27; ((with_reducible refine CA.out.mono ?_); rintro e w1 ⟨rfl, hb⟩; have hz0 := hb.size; have HB := Lib.hid hb; clear hb CA))
    | (go_at_call 9; ((with_reducible refine (C1.out _).mono ?_); rintro e w2 ⟨rfl, a1, k1⟩; have HO : Hid (One w w2 w1.heap.size (newS m)) := Lib.hid ⟨a1, bThen HB.out k1, newS_ok m1 m2, hz0⟩; have hz1 := k1.size; have hz2 := a1.lt; clear a1 k1 HB C1)))
  clear hmk
  have HO1 := Lib.hid (HO.out.then (bAl (Below.refl _ _) (.cells (mkB m) 4)))
  have HH := Lib.hid (AtC.new w2 (mkB m) 4)
  rw [hC_new] at HO1 HH
  rw [hC_new]
  clear HO
  generalize w2.alloc (.cells (hC (newS m).tk) 4) = w3 at *
  generalize w1.heap.size = B at *
  have hd0 : w.heap.size ≤ w2.heap.size := by omega
  have hd1 : B ≠ w2.heap.size := by omega
  generalize w2.heap.size = Hd at *
  go_loopw [8, 9] (fun u i wr => ∃ (k mm : Nat) (s : Ar), i = .int .i64 k ∧ u = .int .i64 mm ∧ many s.tk = mm ∧ k ≤ l.length ∧ s.tk.length = m ∧ (∀ i, s.ag.getD i 0 ≤ k) ∧ One w wr B s ∧ AtC wr Hd (hC s.tk)) (fun _ i _ => l.length - (intOf i).toNat)
  case atStart => exact ⟨0, 0, newS m, rfl, rfl, by simp [newS, many], Nat.zero_le _, by simp [newS], fun i => by rw [newS_ag]; exact Nat.le_refl _, HO1.out, HH.out⟩
  case round =>
    obtain ⟨k, mm, s, rfl, rfl, hmm, hk, hlen, hag, ho, hh⟩ := hrel
    have HO2 := Lib.hid ho
    have HG := Lib.hid hag
    have HM := Lib.hid hmm
    have HL := Lib.hid hlen
    have HH2 := Lib.hid hh
    have hmle : mm ≤ 64 := by have := many_le s.tk; omega
    clear ho hag hmm hlen hh HO1 HH
    by_cases hlt : k < l.length
    · have i2 : (k : Int) < l.length := by omega
      obtain ⟨b, o, rfl, hbl, hc⟩ := HRd.out.at_ (by omega)
      obtain ⟨q1, q2⟩ := hc k _ (List.getElem?_eq_getElem hlt)
      have q3 := (HO2.out.bel.cell (p := ⟨b, o + k * 2, none⟩) hbl).trans q1
      have q4 := (HO2.out.bel.cell (p := ⟨b, o + k * 2 + 1, none⟩) hbl).trans q2
      have hxb := HX.out _ (List.getElem_mem hlt)
      clear hc q1 q2
      generalize l[k] = x at *
      obtain ⟨xg, xk⟩ := x
      simp only at q3 q4 hxb
      cases xg with
      | true =>
        by_cases hin : 0 ≤ xk ∧ xk < m
        · obtain ⟨j, rfl⟩ := Int.eq_ofNat_of_zero_le hin.1
          have hj : j < s.tk.length := by rw [HL.out]; omega
          have j1 : (j : Int) < m := hin.2
          have j2 : max (j : Int) 0 = j := by omega
          have j3 : (j : Int) % m = j := Int.emod_eq_of_lt hin.1 hin.2
          have hcell := (HH2.out.c j).trans (hC_get hj)
          have hfz := HH2.out.f j
          have TN := Lib.hid (taken_nat s hj)
          cases hb : s.tk.getD j false with
          | true =>
            have CG := Lib.hid (give_to HO2.out.ok (giveE_t (TN.out.trans hb)) _ HO2.out.a)
            have GS := Lib.hid (giveS_t (TN.out.trans hb))
            have MS := Lib.hid (many_set_f hb)
            have hcg := (hC_get hj).trans (by rw [hb])
            rw [hb] at hcell
            have hmp : 1 ≤ mm := by have := MS.out; have := HM.out; omega
            clear hb TN
            go_wp2_with (go_at_call 11; ((with_reducible refine CG.out.mono ?_); rintro e w4 ⟨rfl, a4, k4⟩; have HO3 := Lib.hid (HO2.out.next a4 k4 (HO2.out.ok.give j)); have h3 := HH2.out.far k4 (fun e => hd1 e.symm); have hc4 := (h3.c j).trans hcg; have hf4 := h3.f j; have HH3 := Lib.hid h3; clear a4 k4 h3))
            have e1 := HO3.out.hold hd0 hd1 j (.bool false)
            have e2 := HH3.out.set (i := j) (by rw [hC_size]; exact hj) (.bool false)
            rw [hC_set] at e2
            have e3 : AtC (w4.setCell ⟨Hd, j, none⟩ (.bool false)) Hd (hC (giveS s (j : Int)).tk) := by rw [GS.out]; exact e2
            have E1 := Lib.hid e1
            have E3 := Lib.hid e3
            clear e1 e2 e3
            go_roundw
            case rel => exact ⟨k + 1, mm - 1, _, by go_num, (by congr 1; omega), by rw [GS.out]; have := MS.out; have := HM.out; simp only; omega, by omega, by rw [give_len]; exact HL.out, fun i => Nat.le_trans (give_ag j HG.out i) (Nat.le_succ _), E1.out, E3.out⟩
            case measure => (simp [intOf]) <;> omega
          | false =>
            have CG := Lib.hid (give_to HO2.out.ok (giveE_f (TN.out.trans hb)) _ HO2.out.a)
            have GS := Lib.hid (giveS_f (TN.out.trans hb))
            rw [hb] at hcell
            clear hb TN
            go_wp2_with (go_at_call 11; ((with_reducible refine CG.out.mono ?_); rintro e w4 ⟨rfl, a4, k4⟩; have HO3 := Lib.hid (HO2.out.next a4 k4 (HO2.out.ok.give j)); have h3 := HH2.out.far k4 (fun e => hd1 e.symm); have HH3 := Lib.hid h3; clear a4 k4 h3))
            go_roundw
            case rel => exact ⟨k + 1, mm, s, by go_num, rfl, HM.out, by omega, HL.out, fun i => Nat.le_trans (HG.out i) (Nat.le_succ _), by have := HO3.out; rw [GS.out] at this; exact this, HH3.out⟩
            case measure => (simp [intOf]) <;> omega
        · have TN : takenB s xk = false := by
            have : exB s xk = false := by simp [exB, HL.out]; omega
            simp [takenB, this]
          have CG := Lib.hid (give_to HO2.out.ok (giveE_f TN) _ HO2.out.a)
          have GS := Lib.hid (giveS_f TN)
          clear TN
          by_cases h0 : 0 ≤ xk
          · have h2 : ¬ xk < m := by omega
            go_wp2_with (go_at_call 11; ((with_reducible refine CG.out.mono ?_); rintro e w4 ⟨rfl, a4, k4⟩; have HO3 := Lib.hid (HO2.out.next a4 k4 (HO2.out.ok.give xk)); have h3 := HH2.out.far k4 (fun e => hd1 e.symm); have HH3 := Lib.hid h3; clear a4 k4 h3))
            go_roundw
            case rel => exact ⟨k + 1, mm, s, by go_num, rfl, HM.out, by omega, HL.out, fun i => Nat.le_trans (HG.out i) (Nat.le_succ _), by have := HO3.out; rw [GS.out] at this; exact this, HH3.out⟩
            case measure => (simp [intOf]) <;> omega
          · go_wp2_with (go_at_call 11; ((with_reducible refine CG.out.mono ?_); rintro e w4 ⟨rfl, a4, k4⟩; have HO3 := Lib.hid (HO2.out.next a4 k4 (HO2.out.ok.give xk)); have h3 := HH2.out.far k4 (fun e => hd1 e.symm); have HH3 := Lib.hid h3; clear a4 k4 h3))
            go_roundw
            case rel => exact ⟨k + 1, mm, s, by go_num, rfl, HM.out, by omega, HL.out, fun i => Nat.le_trans (HG.out i) (Nat.le_succ _), by have := HO3.out; rw [GS.out] at this; exact this, HH3.out⟩
            case measure => (simp [intOf]) <;> omega
      | false =>
        by_cases hf : freeIx s.tk < s.tk.length
        · obtain ⟨f1, f2⟩ := free_lt hf
          have CG := Lib.hid (take_to (x := freeIx s.tk) (e := 0) HO2.out.ok (fun i => Nat.le_trans (HG.out i) (by omega)) (by simp [takeV, hf]) (by simp [takeE, hf]) wr HO2.out.a)
          have GS := Lib.hid (show takeS s = ⟨s.tk.set (freeIx s.tk) true, s.ag.set (freeIx s.tk) (s.ag.getD (freeIx s.tk) 0 + 1)⟩ by simp [takeS, hf])
          have MS := Lib.hid (many_set_t hf f1)
          have F2 := Lib.hid f2
          have hcg := (hC_get hf).trans (by rw [f1])
          have HF := Lib.hid hf
          have hfm : freeIx s.tk < m := by rw [← HL.out]; exact hf
          clear f1 f2 hf
          generalize freeIx s.tk = fx at *
          have j1 : (fx : Int) < m := by omega
          go_wp2_with (go_at_call 13; ((with_reducible refine CG.out.mono ?_); rintro e w4 ⟨rfl, a4, k4⟩; have HO3 := Lib.hid (HO2.out.next a4 k4 HO2.out.ok.take); have h3 := HH2.out.far k4 (fun e => hd1 e.symm); have hc4 := (h3.c fx).trans hcg; have hf4 := h3.f fx; have HH3 := Lib.hid h3; clear a4 k4 h3))
          go_loop [14] (fun i => ∃ j : Nat, i = .int .i64 j ∧ j ≤ fx) (fun i => fx - (intOf i).toNat)
          case atStart => exact ⟨0, rfl, Nat.zero_le _⟩
          case round =>
            obtain ⟨j, rfl, hj⟩ := hrel
            by_cases hjf : j < fx
            · have j2 : (j : Int) < fx := by omega
              have j3 : (j : Int) < m := by omega
              have hc5 := (HH3.out.c j).trans ((hC_get (show j < s.tk.length by rw [HL.out]; omega)).trans (by rw [F2.out j hjf]))
              go_wp2
              go_round
              case rel => exact ⟨j + 1, by go_num, by omega⟩
              case measure => (simp [intOf]) <;> omega
            · have e : j = fx := by omega
              subst e
              go_wp2
              have e1 := HO3.out.hold hd0 hd1 j (.bool true)
              have e2 := HH3.out.set (i := j) (by rw [hC_size]; exact HF.out) (.bool true)
              rw [hC_set] at e2
              have e3 : AtC (w4.setCell ⟨Hd, j, none⟩ (.bool true)) Hd (hC (takeS s).tk) := by rw [GS.out]; exact e2
              have E1 := Lib.hid e1
              have E3 := Lib.hid e3
              clear e1 e2 e3
              go_roundw
              case rel => exact ⟨k + 1, mm + 1, _, by go_num, by go_num, by rw [GS.out]; have := MS.out; have := HM.out; simp only; omega, by omega, by rw [take_len]; exact HL.out, take_ag HG.out, E1.out, E3.out⟩
              case measure => (simp [intOf]) <;> omega
        · have hmf := many_full hf
          rw [HM.out, HL.out] at hmf
          have CG := Lib.hid (take_to (x := 0) (e := 4) HO2.out.ok (fun i => Nat.le_trans (HG.out i) (by omega)) (by simp [takeV, hf]) (by simp [takeE, hf]) wr HO2.out.a)
          have GS := Lib.hid (show takeS s = s by simp [takeS, hf])
          clear hf
          subst hmf
          go_wp2_with (go_at_call 13; ((with_reducible refine CG.out.mono ?_); rintro e w4 ⟨rfl, a4, k4⟩; have HO3 := Lib.hid (HO2.out.next a4 k4 HO2.out.ok.take); have h3 := HH2.out.far k4 (fun e => hd1 e.symm); have HH3 := Lib.hid h3; clear a4 k4 h3))
          go_roundw
          case rel => exact ⟨k + 1, mm, s, by go_num, rfl, HM.out, by omega, HL.out, fun i => Nat.le_trans (HG.out i) (Nat.le_succ _), by have := HO3.out; rw [GS.out] at this; exact this, HH3.out⟩
          case measure => (simp [intOf]) <;> omega
    · have e : k = l.length := by omega
      subst e
      have hml : mm ≤ m := by have := many_le s.tk; have := HM.out; have := HL.out; omega
      clear HRd HX
      go_wp2
      go_loopw [15] (fun i wr => ∃ j : Nat, i = .int .i64 j ∧ j ≤ m ∧ One w wr B s ∧ AtC wr Hd (hC s.tk)) (fun i _ => m - (intOf i).toNat)
      case atStart => exact ⟨0, rfl, Nat.zero_le _, HO2.out, HH2.out⟩
      case round =>
        obtain ⟨j, rfl, hj, ho4, hh4⟩ := hrel
        have HO4 := Lib.hid ho4
        have HH4 := Lib.hid hh4
        clear ho4 hh4 HO2 HH2
        by_cases hjm : j < m
        · have j1 : (j : Int) < m := by omega
          have hjs : j < s.tk.length := by rw [HL.out]; exact hjm
          have hc5 := (HH4.out.c j).trans (hC_get hjs)
          have hcd : ∀ n, (wr.drewN n).cell? ⟨Hd, j, none⟩ = some (.bool (s.tk.getD j false)) := fun n => hc5
          have TN := taken_nat s hjs
          have CT := Lib.hid (fun n => taken_q B s HO4.out.ok (j : Int) (wr.drewN n) (HO4.out.a.then (bDrew (Below.refl _ _) n)))
          rw [TN] at CT
          clear TN
          generalize s.tk.getD j false = bb at *
          go_wp2
          go_quiet ((go_at_call 15; first | exact Calls.quiet_of (CT.out _) | exact HL.quiet_add (CT.out _)))
          go_wp2
          go_roundw
          case rel => exact ⟨j + 1, by go_num, by omega, HO4.out.then (bDrew (Below.refl _ _) _), HH4.out.then (bDrew (Below.refl _ _) _)⟩
          case measure => (simp [intOf]) <;> omega
        · have j1 : ¬ (j : Int) < m := by omega
          have CM := Lib.hid (many_is HO4.out.ok HM.out wr HO4.out.a)
          have AF := all_form B s HO4.out.ok wr HO4.out.a
          rw [HM.out] at AF
          have CF := Lib.hid AF
          have j2 : (mm : Int) ≤ m := by omega
          clear AF
          go_wp2_with (first
            | (go_at_call 19; ((with_reducible refine CM.out.mono ?_); rintro e w5 ⟨rfl, rfl⟩))
            | (go_at_call 23; ((with_reducible refine CF.out.mono ?_); rintro e w6 ⟨A6, c6, rfl, _, k6⟩; have HO5 := Lib.hid (HO4.out.then k6); clear k6)))
          go_ret
          exact ⟨rfl, HO5.out.bel⟩
end Go.Proofs.Ytaofhooddbkglaa
