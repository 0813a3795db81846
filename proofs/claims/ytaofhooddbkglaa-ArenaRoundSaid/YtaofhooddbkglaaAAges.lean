/-
  WALK: the law ArenaAges.
-/
import Derived.Test.YtaofhooddbkglaaAAwake
import Derived.Test.YtaofhooddbkglaaAOutMath
namespace Go.Proofs.Ytaofhooddbkglaa
open Go.RowKit
set_option maxRecDepth 100000
set_option linter.unusedVariables false
set_option linter.unusedSimpArgs false

/-- The arena at a state, in memory of the call's own. -/
structure One (w0 W : World) (B : Nat) (s : Ar) : Prop where
  a : AtC W B (arC B s)
  bel : Below w0.heap.size w0 W
  ok : ArOk s
  b0 : w0.heap.size ≤ B
theorem One.then {w0 W W1 : World} {B : Nat} {s : Ar} (h : One w0 W B s) (k : Below W.heap.size W W1) : One w0 W1 B s := ⟨h.a.then k, bThen h.bel k, h.ok, h.b0⟩
theorem One.next {w0 W W1 : World} {B : Nat} {s s' : Ar} (h : One w0 W B s) (a1 : AtC W1 B (arC B s')) (k1 : Kept W W1 (· ≠ B)) (ok : ArOk s') : One w0 W1 B s' :=
  ⟨a1, bKept h.bel k1 (fun i hi => by have := h.b0; show i ≠ B; omega), ok, h.b0⟩
theorem awake_then {w0 W : World} (h : Below w0.heap.size w0 W) : Calls Try.prog 27 #[] W fun e w' => e = .returned (.bool true) ∧ Below w0.heap.size w0 w' :=
  (awake_any W).mono fun _ _ ⟨he, hb⟩ => ⟨he, bThen h hb⟩
theorem give_to {B : Nat} {s : Ar} {k e : Int} (hs : ArOk s) (he : giveE s k = e) (w : World) (hA : AtC w B (arC B s)) : Calls Try.prog 11 #[ptr B, .int .i64 k] w fun r w' => r = .returned (.int .i64 e) ∧ AtC w' B (arC B (giveS s k)) ∧ Kept w w' (· ≠ B) := by
  subst he; exact give_any B s hs k w hA
theorem take_to {B : Nat} {s : Ar} {x e : Int} (hs : ArOk s) (hg : ∀ i, s.ag.getD i 0 ≤ 1000000) (hx : takeV s = x) (he : takeE s = e) (w : World) (hA : AtC w B (arC B s)) : Calls Try.prog 13 #[ptr B] w fun r w' => r = .returned (.tuple #[.int .i64 x, .int .i64 e]) ∧ AtC w' B (arC B (takeS s)) ∧ Kept w w' (· ≠ B) := by
  subst hx he; exact take_any B s hs hg w hA
theorem taken_to {B : Nat} {s : Ar} {k : Int} {b : Bool} (hs : ArOk s) (he : takenB s k = b) (w : World) (hA : AtC w B (arC B s)) : Calls Try.prog 15 #[ptr B, .int .i64 k] w fun r w' => r = .returned (.bool b) ∧ Below w.heap.size w w' := by
  subst he; exact taken_any B s hs k w hA
theorem age_zero {B : Nat} {s : Ar} {k : Int} (hs : ArOk s) (he : ageN s k = 0) (w : World) (hA : AtC w B (arC B s)) : Calls Try.prog 17 #[ptr B, .int .i64 k] w fun r w' => r = .returned (.int .i64 0) ∧ w = w' := by
  have := age_any B s hs k w hA; rw [he] at this; exact this
set_option maxHeartbeats 4000000 in
theorem ages_walk {A : Option Addr} (n : Int) (l : List Act1) (c : Nat) (w : World) (hr : RdA w w.heap.size A l) (hm : l.length ≤ maxLen) :
    Calls Try.prog 7 #[.int .i64 n, .slice A l.length c] w fun e w' => e = .returned (.bool true) ∧ Below w.heap.size w w' := by
  unfold maxLen at hm
  have hb : Below w.heap.size w w := Below.refl _ _
  have CA := Lib.hid (awake_then hb)
  by_cases hn : n < 1 ∨ 64 < n
  · rcases hn with hn | hn
    · clear hb
      go_enter Try.func7, Try.ntmps7
      go_wp2_with (go_at_call 27; ((with_reducible refine CA.out.mono ?_); rintro e w1 ⟨rfl, hb⟩))
      go_ret
      exact ⟨rfl, hb⟩
    · have h1 : ¬ n < 1 := by omega
      clear hb
      go_enter Try.func7, Try.ntmps7
      go_wp2_with (go_at_call 27; ((with_reducible refine CA.out.mono ?_); rintro e w1 ⟨rfl, hb⟩))
      go_ret
      exact ⟨rfl, hb⟩
  have h1 : ¬ n < 1 := by omega
  have h64 : ¬ 64 < n := by omega
  by_cases hl : 300 < l.length
  · have i1 : (300 : Int) < l.length := by omega
    clear hb
    go_enter Try.func7, Try.ntmps7
    go_wp2_with (go_at_call 27; ((with_reducible refine CA.out.mono ?_); rintro e w1 ⟨rfl, hb⟩))
    go_ret
    exact ⟨rfl, hb⟩
  have i1 : ¬ (300 : Int) < l.length := by omega
  obtain ⟨m, rfl⟩ := Int.eq_ofNat_of_zero_le (show 0 ≤ n by omega)
  have m1 : 1 ≤ m := by omega
  have m2 : m ≤ 64 := by omega
  have HRd := Lib.hid hr
  have C1 := Lib.hid (fun W => new_yes m W m1 m2)
  clear hr hl hn hb
  go_enter Try.func7, Try.ntmps7
  go_wp2_with (first
    | (go_at_call 27; ((with_reducible refine CA.out.mono ?_); rintro e w1 ⟨rfl, hb⟩; have hz0 := hb.size; have HB := Lib.hid hb; clear hb CA))
    | (go_at_call 9; ((with_reducible refine (C1.out _).mono ?_); rintro e w2 ⟨rfl, a1, k1⟩; have HO : Hid (One w w2 w1.heap.size (newS m)) := Lib.hid ⟨a1, bThen HB.out k1, newS_ok m1 m2, hz0⟩; clear a1 k1 HB C1)))
  generalize w1.heap.size = B at *
  go_loopw [7, 8, 9] (fun t g i wr => ∃ (k tt gg : Nat) (s : Ar), i = .int .i64 k ∧ t = .int .i64 tt ∧ g = .int .i64 gg ∧ k ≤ l.length ∧ tt ≤ k ∧ gg ≤ k ∧ s.tk.length = m ∧ (∀ i, s.ag.getD i 0 ≤ k) ∧ Tally s tt gg ∧ One w wr B s) (fun _ _ i _ => l.length - (intOf i).toNat)
  case atStart => exact ⟨0, 0, 0, newS m, rfl, rfl, rfl, Nat.zero_le _, Nat.le_refl _, Nat.le_refl _, by simp [newS], fun i => by rw [newS_ag]; exact Nat.le_refl _, tally_new m, HO.out⟩
  case round =>
    obtain ⟨k, tt, gg, s, rfl, rfl, rfl, hk, ht, hg, hlen, hag, htl, ho⟩ := hrel
    have HO2 := Lib.hid ho
    have HG := Lib.hid hag
    have HT := Lib.hid htl
    have HL := Lib.hid hlen
    clear ho hag htl HO hlen
    by_cases hlt : k < l.length
    · have i2 : (k : Int) < l.length := by omega
      obtain ⟨b, o, rfl, hbl, hc⟩ := HRd.out.at_ (by omega)
      obtain ⟨q1, q2⟩ := hc k _ (List.getElem?_eq_getElem hlt)
      have q3 := (HO2.out.bel.cell (p := ⟨b, o + k * 2, none⟩) hbl).trans q1
      have q4 := (HO2.out.bel.cell (p := ⟨b, o + k * 2 + 1, none⟩) hbl).trans q2
      clear hc q1 q2
      generalize l[k] = x at *
      cases hgv : x.give with
      | true =>
        rw [hgv] at q3
        clear hgv
        cases hx : takenB s x.k with
        | true =>
          have CG := Lib.hid (give_to (k := x.k) HO2.out.ok (show giveE s x.k = 0 by simp [giveE, hx]) wr HO2.out.a)
          have HT2 := Lib.hid (HT.out.give_yes hx)
          clear hx
          go_wp2_with (go_at_call 11; ((with_reducible refine CG.out.mono ?_); rintro e w3 ⟨rfl, a3, k3⟩; have HO3 := Lib.hid (HO2.out.next a3 k3 (HO2.out.ok.give x.k)); clear a3 k3))
          go_roundw
          case rel => exact ⟨k + 1, tt, gg + 1, _, by go_num, rfl, by go_num, by omega, by omega, by omega, by rw [give_len]; exact HL.out, fun i => Nat.le_trans (give_ag x.k HG.out i) (Nat.le_succ _), HT2.out, HO3.out⟩
          case measure => (simp [intOf]) <;> omega
        | false =>
          have CG := Lib.hid (give_to (k := x.k) HO2.out.ok (show giveE s x.k = 60 by simp [giveE, hx]) wr HO2.out.a)
          have HT2 := Lib.hid (HT.out.give_no hx)
          clear hx
          go_wp2_with (go_at_call 11; ((with_reducible refine CG.out.mono ?_); rintro e w3 ⟨rfl, a3, k3⟩; have HO3 := Lib.hid (HO2.out.next a3 k3 (HO2.out.ok.give x.k)); clear a3 k3))
          go_roundw
          case rel => exact ⟨k + 1, tt, gg, _, by go_num, rfl, rfl, by omega, by omega, by omega, by rw [give_len]; exact HL.out, fun i => Nat.le_trans (give_ag x.k HG.out i) (Nat.le_succ _), HT2.out, HO3.out⟩
          case measure => (simp [intOf]) <;> omega
      | false =>
        rw [hgv] at q3
        clear hgv
        by_cases hf : freeIx s.tk < s.tk.length
        · have CG := Lib.hid (take_to (x := freeIx s.tk) (e := 0) HO2.out.ok (fun i => Nat.le_trans (HG.out i) (by omega)) (by simp [takeV, hf]) (by simp [takeE, hf]) wr HO2.out.a)
          have HT2 := Lib.hid (HT.out.take_yes HO2.out.ok hf)
          clear hf
          generalize freeIx s.tk = fx at *
          go_wp2_with (go_at_call 13; ((with_reducible refine CG.out.mono ?_); rintro e w3 ⟨rfl, a3, k3⟩; have HO3 := Lib.hid (HO2.out.next a3 k3 HO2.out.ok.take); clear a3 k3))
          go_roundw
          case rel => exact ⟨k + 1, tt + 1, gg, _, by go_num, by go_num, rfl, by omega, by omega, by omega, by rw [take_len]; exact HL.out, take_ag HG.out, HT2.out, HO3.out⟩
          case measure => (simp [intOf]) <;> omega
        · have CG := Lib.hid (take_to (x := 0) (e := 4) HO2.out.ok (fun i => Nat.le_trans (HG.out i) (by omega)) (by simp [takeV, hf]) (by simp [takeE, hf]) wr HO2.out.a)
          have HT2 := Lib.hid (HT.out.take_no hf)
          clear hf
          go_wp2_with (go_at_call 13; ((with_reducible refine CG.out.mono ?_); rintro e w3 ⟨rfl, a3, k3⟩; have HO3 := Lib.hid (HO2.out.next a3 k3 HO2.out.ok.take); clear a3 k3))
          go_roundw
          case rel => exact ⟨k + 1, tt, gg, _, by go_num, rfl, rfl, by omega, by omega, by omega, by rw [take_len]; exact HL.out, take_ag HG.out, HT2.out, HO3.out⟩
          case measure => (simp [intOf]) <;> omega
    · have e : k = l.length := by omega
      subst e
      clear HRd
      go_wp2
      have HT3 := Lib.hid (fun k => sum_take_le s.ag k)
      go_loopw [12, 13] (fun u i wr => ∃ z : Int, i = .int .i64 z ∧ u = .int .i64 ((s.ag.take z.toNat).sum : Nat) ∧ -1 ≤ z ∧ z ≤ m + 1 ∧ One w wr B s) (fun _ i _ => (m + 1 - (intOf i)).toNat)
      case atStart => exact ⟨-1, rfl, by simp, by omega, by omega, HO2.out⟩
      case round =>
        obtain ⟨z, rfl, rfl, hz1, hz2, ho4⟩ := hrel
        have HO4 := Lib.hid ho4
        clear ho4 HO2
        have hq := HT3.out z.toNat
        rw [HT.out.sum] at hq
        by_cases hz : z ≤ m
        · obtain ⟨a, hA1, hA2, hA3, hA4, hA5⟩ : ∃ a : Nat, ageN s z = a ∧ a ≤ tt ∧ (takenB s z = true → 1 ≤ a) ∧ (s.ag.take z.toNat).sum + a = (s.ag.take (z + 1).toNat).sum ∧ ((z < 0 ∨ z = m) → a = 0 ∧ takenB s z = false) := by
            by_cases hin : 0 ≤ z ∧ z < m
            · obtain ⟨j, rfl⟩ := Int.eq_ofNat_of_zero_le hin.1
              have hj : j < s.tk.length := by rw [HL.out]; omega
              have e1 := sum_snoc s.ag j
              have hle := HT3.out (j + 1)
              rw [e1, HT.out.sum] at hle
              have j2 : (j : Int) < s.tk.length := by omega
              refine ⟨s.ag.getD j 0, by simp [ageN, exB, j2], by omega, fun h => HT.out.pos j (by rw [← taken_nat s hj]; exact h), ?_, fun h => by omega⟩
              rw [show ((j : Int) + 1).toNat = j + 1 by omega, e1, Int.toNat_natCast]
            · have hx : exB s z = false := by simp [exB, HL.out]; omega
              refine ⟨0, by simp [ageN, hx], by omega, fun h => by simp [takenB, hx] at h, ?_, fun _ => ⟨rfl, by simp [takenB, hx]⟩⟩
              rcases (show z = -1 ∨ z = m by omega) with rfl | rfl
              · simp
              · rw [show ((m : Int) + 1).toNat = m + 1 by omega, Int.toNat_natCast, sum_snoc]
                have : s.ag.getD m 0 = 0 := by rw [List.getD_eq_getElem?_getD, List.getElem?_eq_none (by rw [HO4.out.ok.len, HL.out]; exact Nat.le_refl _)]; rfl
                rw [this]
          have AG := Lib.hid hA1
          have NX := Lib.hid hA4
          have A5 := Lib.hid hA5
          have A3 := Lib.hid hA3
          clear hA1 hA3 hA4 hA5
          generalize (s.ag.take z.toNat).sum = q at *
          by_cases hz0 : z < 0
          · obtain ⟨hz, tb⟩ := A5.out (.inl hz0)
            have AG2 : Hid (ageN s z = 0) := Lib.hid (by rw [AG.out, hz])
            have NX2 : Hid (q = (s.ag.take (z + 1).toNat).sum) := Lib.hid (by rw [← NX.out, hz]; rfl)
            have TB := Lib.hid tb
            clear tb A5 A3 hz AG NX
            go_wp2_with (first
              | (go_at_call 15; ((with_reducible refine (taken_to (k := z) HO4.out.ok TB.out _ HO4.out.a).mono ?_); rintro e w5 ⟨rfl, k5⟩; have HO5 := Lib.hid (HO4.out.then k5); clear k5))
              | (go_at_call 17; ((with_reducible refine (age_zero (k := z) HO5.out.ok AG2.out _ HO5.out.a).mono ?_); rintro e w6 ⟨rfl, rfl⟩)))
            go_roundw
            case rel => exact ⟨z + 1, by go_num, by rw [← NX2.out], by omega, by omega, HO5.out⟩
            case measure => (simp [intOf]) <;> omega
          · by_cases hzm : z = m
            · obtain ⟨hz, tb⟩ := A5.out (.inr hzm)
              have AG2 : Hid (ageN s z = 0) := Lib.hid (by rw [AG.out, hz])
              have NX2 : Hid (q = (s.ag.take (z + 1).toNat).sum) := Lib.hid (by rw [← NX.out, hz]; rfl)
              have TB := Lib.hid tb
              clear tb A5 A3 hz AG NX hz2
              subst hzm
              go_wp2_with (first
                | (go_at_call 15; ((with_reducible refine (taken_to (k := m) HO4.out.ok TB.out _ HO4.out.a).mono ?_); rintro e w5 ⟨rfl, k5⟩; have HO5 := Lib.hid (HO4.out.then k5); clear k5))
                | (go_at_call 17; ((with_reducible refine (age_zero (k := m) HO5.out.ok AG2.out _ HO5.out.a).mono ?_); rintro e w6 ⟨rfl, rfl⟩)))
              go_roundw
              case rel => exact ⟨(m : Int) + 1, rfl, by rw [← NX2.out], by omega, by omega, HO5.out⟩
              case measure => (simp [intOf]) <;> omega
            · cases hx : takenB s z with
              | true =>
                have ha1 := A3.out hx
                have TB := Lib.hid hx
                clear hx A5 A3
                go_wp2_with (first
                  | (go_at_call 15; ((with_reducible refine (taken_to (k := z) HO4.out.ok TB.out _ HO4.out.a).mono ?_); rintro e w5 ⟨rfl, k5⟩; have HO5 := Lib.hid (HO4.out.then k5); clear k5))
                  | (go_at_call 17; ((with_reducible refine (age_is (k := z) (n := a) HO5.out.ok AG.out _ HO5.out.a).mono ?_); rintro e w6 ⟨rfl, rfl⟩)))
                go_roundw
                case rel => exact ⟨z + 1, by go_num, by rw [← NX.out]; go_num, by omega, by omega, HO5.out⟩
                case measure => (simp [intOf]) <;> omega
              | false =>
                have TB := Lib.hid hx
                clear hx A5 A3
                go_wp2_with (first
                  | (go_at_call 15; ((with_reducible refine (taken_to (k := z) HO4.out.ok TB.out _ HO4.out.a).mono ?_); rintro e w5 ⟨rfl, k5⟩; have HO5 := Lib.hid (HO4.out.then k5); clear k5))
                  | (go_at_call 17; ((with_reducible refine (age_is (k := z) (n := a) HO5.out.ok AG.out _ HO5.out.a).mono ?_); rintro e w6 ⟨rfl, rfl⟩)))
                go_roundw
                case rel => exact ⟨z + 1, by go_num, by rw [← NX.out]; go_num, by omega, by omega, HO5.out⟩
                case measure => (simp [intOf]) <;> omega
        · have e : z = m + 1 := by omega
          subst e
          have e2 : (s.ag.take ((m : Int) + 1).toNat).sum = tt := by
            rw [List.take_of_length_le (by rw [HO4.out.ok.len, HL.out]; omega), HT.out.sum]
          have hmn := HT.out.many
          have MA := Lib.hid (many_any B s HO4.out.ok)
          have E2 := Lib.hid e2
          clear e2
          generalize (s.ag.take ((m : Int) + 1).toNat).sum = q at *
          have e3 := E2.out
          subst e3
          have hq2 : ((many s.tk : Nat) : Int) = q - gg := by omega
          generalize many s.tk = mn at *
          go_wp2_with (go_at_call 19; ((with_reducible refine (MA.out _ HO4.out.a).mono ?_); rintro e w6 ⟨rfl, rfl⟩))
          go_ret
          exact ⟨rfl, HO4.out.bel⟩
end Go.Proofs.Ytaofhooddbkglaa
