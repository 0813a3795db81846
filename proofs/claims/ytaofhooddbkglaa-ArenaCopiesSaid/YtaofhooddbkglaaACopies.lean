/-
  WALK: the law ArenaCopies.
-/
import Derived.Test.YtaofhooddbkglaaAPlays
namespace Go.Proofs.Ytaofhooddbkglaa
open Go.RowKit
set_option maxRecDepth 100000
set_option linter.unusedVariables false
set_option linter.unusedSimpArgs false

def stepS (s : Ar) (x : Act1) : Ar := if x.give then giveS s x.k else takeS s
def runS (s : Ar) (l : List Act1) : Ar := l.foldl stepS s
theorem runS_snoc (s : Ar) {l : List Act1} {k : Nat} (h : k < l.length) : runS s (l.take (k + 1)) = stepS (runS s (l.take k)) l[k] := by
  unfold runS
  rw [List.take_succ_eq_append_getElem h, List.foldl_append]; rfl
set_option maxHeartbeats 4000000 in
theorem play_any {A : Option Addr} {w0 : World} {B X T G cT cG : Nat} {s : Ar} {n0 : Nat} (l : List Act1) (c : Nat) (w : World) (hr : RdA w0 w0.heap.size A l) (hl : l.length ≤ 100) (hB : Both w0 w B X T G cT cG s) (hg : ∀ i, s.ag.getD i 0 ≤ n0) (hn : n0 ≤ 1000) :
    Calls Try.prog 24 #[ptr B, ptr X, .slice A l.length c] w fun e w' => e = .returned (.tuple #[]) ∧ Both w0 w' B X T G cT cG (runS s l) ∧ Kept w w' (fun b => b ≠ B ∧ b ≠ T ∧ b ≠ G) ∧ ∀ i, (runS s l).ag.getD i 0 ≤ n0 + 100 := by
  have HRd := Lib.hid hr
  have HB0 := Lib.hid hB
  have HG0 := Lib.hid hg
  clear hr hB hg
  go_enter Try.func24, Try.ntmps24
  go_wp2
  go_loopw [6] (fun i wr => ∃ k : Nat, i = .int .i64 k ∧ k ≤ l.length ∧ Both w0 wr B X T G cT cG (runS s (l.take k)) ∧ Kept w wr (fun b => b ≠ B ∧ b ≠ T ∧ b ≠ G) ∧ ∀ i, (runS s (l.take k)).ag.getD i 0 ≤ n0 + k) (fun i _ => l.length - (intOf i).toNat)
  case atStart => exact ⟨0, rfl, Nat.zero_le _, HB0.out, .refl _ _, fun i => HG0.out i⟩
  case round =>
    obtain ⟨k, rfl, hk, hB, hK, hag⟩ := hrel
    have HB := Lib.hid hB
    have HK := Lib.hid hK
    have HG := Lib.hid hag
    clear hB hK hag HB0 HG0
    by_cases hlt : k < l.length
    · have i2 : (k : Int) < l.length := by omega
      obtain ⟨b, o, rfl, hbl, hc⟩ := HRd.out.at_ (by omega)
      obtain ⟨q1, q2⟩ := hc k _ (List.getElem?_eq_getElem hlt)
      have q3 := (HB.out.bel.cell (p := ⟨b, o + k * 2, none⟩) hbl).trans q1
      have q4 := (HB.out.bel.cell (p := ⟨b, o + k * 2 + 1, none⟩) hbl).trans q2
      have z1 : b < wr.heap.size := Nat.lt_of_lt_of_le hbl HB.out.bel.size
      have z2 : b ≠ B := by have := HB.out.b0; omega
      have HS := Lib.hid (runS_snoc s hlt)
      clear hc q1 q2 hbl
      generalize l[k] = x at *
      generalize hs1 : runS s (l.take k) = s1 at *
      clear hs1
      cases hg : x.give with
      | true =>
        have HS2 := Lib.hid (show stepS s1 x = giveS s1 x.k by simp [stepS, hg])
        rw [hg] at q3
        clear hg
        go_wp2_with (first
          | (go_at_call 11; ((with_reducible refine (give_any B s1 HB.out.ok x.k _ HB.out.a).mono ?_); rintro e w1 ⟨rfl, a1, k1⟩; have q5 := (k1.cell (o := o + k * 2 + 1) (sp := none) z1 z2).trans q4; have R1 := Lib.hid (HB.out.rf k1); have A1 := Lib.hid a1; have K1 := Lib.hid k1; clear a1 k1))
          | (go_at_call 12; ((with_reducible refine (rGive_any x.k _ HB.out.ok.le R1.out).mono ?_); rintro e w2 ⟨rfl, r2, k2⟩; have HB2 := Lib.hid (HB.out.two A1.out K1.out r2 k2 (HB.out.ok.give x.k)); have K2 := Lib.hid k2; clear r2 k2)))
        go_roundw
        case rel => exact ⟨k + 1, by go_num, by omega, by rw [HS.out, HS2.out]; exact HB2.out, (HK.out.trans (K1.out.weak fun b h => h.1)).trans (K2.out.weak fun b h => h.2), by rw [HS.out, HS2.out]; exact fun i => Nat.le_trans (give_ag x.k HG.out i) (Nat.le_succ _)⟩
        case measure => simp [intOf]; omega
      | false =>
        have HS2 := Lib.hid (show stepS s1 x = takeS s1 by simp [stepS, hg])
        rw [hg] at q3
        clear hg
        go_wp2_with (first
          | (go_at_call 13; ((with_reducible refine (take_any B s1 HB.out.ok (fun i => Nat.le_trans (HG.out i) (by omega)) _ HB.out.a).mono ?_); rintro e w1 ⟨rfl, a1, k1⟩; have R1 := Lib.hid (HB.out.rf k1); have A1 := Lib.hid a1; have K1 := Lib.hid k1; clear a1 k1))
          | (go_at_call 14; ((with_reducible refine (rTake_any HB.out.ok (fun i => Nat.le_trans (HG.out i) (by omega)) _ R1.out).mono ?_); rintro e w2 ⟨rfl, r2, k2⟩; have HB2 := Lib.hid (HB.out.two A1.out K1.out r2 k2 HB.out.ok.take); have K2 := Lib.hid k2; clear r2 k2)))
        go_roundw
        case rel => exact ⟨k + 1, by go_num, by omega, by rw [HS.out, HS2.out]; exact HB2.out, (HK.out.trans (K1.out.weak fun b h => h.1)).trans (K2.out.weak fun b h => h.2), by rw [HS.out, HS2.out]; exact take_ag HG.out⟩
        case measure => simp [intOf]; omega
    · have e : k = l.length := by omega
      subst e
      have HT := Lib.hid (List.take_length (l := l))
      go_wp2
      go_end0
      have hB := HB.out
      have hG := HG.out
      rw [HT.out] at hB hG
      exact ⟨rfl, hB, HK.out, fun i => Nat.le_trans (hG i) (by omega)⟩
theorem Both.kept {w0 W W1 : World} {B X T G cT cG : Nat} {s : Ar} {P : Nat → Prop} (h : Both w0 W B X T G cT cG s) (k : Kept W W1 P) (p1 : P B) (p2 : P X) (p3 : P T) (p4 : P G) (p0 : ∀ i, i < w0.heap.size → P i) : Both w0 W1 B X T G cT cG s :=
  ⟨h.a.kept k p1, h.r.kept k p2 p3 p4, bKept h.bel k p0, h.ok, h.b0, h.x0, h.t0, h.g0, h.bx, h.bt, h.bg⟩
/-- A row of the call's own may be written. -/
theorem OwnI.there {w : World} {base : Nat} {A : Option Addr} {m c : Nat} {l : List Int} (h : OwnI w base (.slice A m c) l) (h0 : 0 < m) : ∃ g, A = some ⟨g, 0, none⟩ ∧ base ≤ g ∧ g < w.heap.size ∧ (∀ i, i < m → ∃ u, w.cell? ⟨g, i, none⟩ = some u) ∧ ∀ i, w.frozen? ⟨g, i, none⟩ = false := by
  rcases h.2 with ⟨e, _⟩ | ⟨g, cap, cur, e, hb, hg, hnc, hcm, hcs, _⟩
  · injection e with _ e2 _; omega
  · injection e with e1 e2 e3
    subst e1
    have hc := Array.getElem?_eq_some_iff.1 hg
    refine ⟨g, rfl, hb, hc.1, fun i hi => ?_, fun i => ?_⟩
    · have hi2 : i < cur.size := by rw [hcs]; omega
      exact ⟨cur[i], by rw [cell_of_row w g i cur _ _ hg]; simp [hi2]⟩
    · simp [World.frozen?, hg]
set_option maxHeartbeats 8000000 in
theorem copies_walk {A A2 : Option Addr} (n : Int) (l more : List Act1) (c c2 : Nat) (w : World) (hr : RdA w w.heap.size A l) (hr2 : RdA w w.heap.size A2 more) (hm : l.length ≤ maxLen) (hm2 : more.length ≤ maxLen) :
    Calls Try.prog 4 #[.int .i64 n, .slice A l.length c, .slice A2 more.length c2] w fun e w' => e = .returned (.bool true) ∧ Below w.heap.size w w' := by
  unfold maxLen at hm hm2
  have hb : Below w.heap.size w w := Below.refl _ _
  by_cases hl : 100 < l.length
  · have i1 : (100 : Int) < l.length := by omega
    go_enter Try.func4, Try.ntmps4
    go_wp2
    go_ret
    exact ⟨rfl, hb⟩
  have i1 : ¬ (100 : Int) < l.length := by omega
  by_cases hl2 : 100 < more.length
  · have i2 : (100 : Int) < more.length := by omega
    go_enter Try.func4, Try.ntmps4
    go_wp2
    go_ret
    exact ⟨rfl, hb⟩
  have i2 : ¬ (100 : Int) < more.length := by omega
  by_cases hn : n < 1 ∨ 64 < n
  · have C1 := Lib.hid (new_no n w hn)
    have C2 := Lib.hid (rNew_no n w hn)
    clear hr hr2 hl hl2
    go_enter Try.func4, Try.ntmps4
    go_wp2_with (first
      | (go_at_call 9; ((with_reducible refine C1.out.mono ?_); rintro e w1 ⟨rfl, rfl⟩))
      | (go_at_call 10; ((with_reducible refine C2.out.mono ?_); rintro e w1 ⟨rfl, rfl⟩)))
    go_ret
    exact ⟨rfl, hb⟩
  obtain ⟨m, rfl⟩ := Int.eq_ofNat_of_zero_le (show 0 ≤ n by omega)
  have m1 : 1 ≤ m := by omega
  have m2 : m ≤ 64 := by omega
  have HRd := Lib.hid hr
  have HRd2 := Lib.hid hr2
  have L1 := Lib.hid (show l.length ≤ 100 by omega)
  have L2 := Lib.hid (show more.length ≤ 100 by omega)
  have C1 := Lib.hid (new_yes m w m1 m2)
  have C2 := Lib.hid (fun W => rNew_yes m W m1 m2)
  clear hr hr2 hl hl2 hn
  go_enter Try.func4, Try.ntmps4
  go_wp2_with (first
    | (go_at_call 9; ((with_reducible refine (C1.out).mono ?_); rintro e w1 ⟨rfl, a1, k1⟩; have hz1 := k1.size; have hz2 := a1.lt; have A1 := Lib.hid a1; have K1 := Lib.hid k1; clear a1 k1 C1))
    | (go_at_call 10; ((with_reducible refine (C2.out _).mono ?_); rintro e w2 ⟨X, T, G, cT, cG, rfl, r2, k2, x2, t2, g2⟩; have HB0 : Hid (Both w w2 w.heap.size X T G cT cG (newS m)) := Lib.hid ⟨A1.out.then k2, r2, bThen K1.out k2, newS_ok m1 m2, Nat.le_refl _, by omega, by omega, by omega, by omega, by omega, by omega⟩; clear r2 k2 A1 K1 C2))
    | (go_at_call 24; ((with_reducible refine (play_any (n0 := 0) l c _ HRd.out L1.out HB0.out (fun i => by rw [newS_ag]; exact Nat.le_refl _) (by omega)).mono ?_); rintro e w3 ⟨rfl, b3, _, g3⟩; have HB1 := Lib.hid b3; have HG1 := Lib.hid g3; clear b3 g3 HB0 HRd; generalize runS (newS m) l = s1 at *))
    | (go_at_call 25; ((with_reducible refine (copy_any w.heap.size _ _ HB1.out.a).mono ?_); rintro e w4 ⟨rfl, a4, k4⟩; have HB2 := Lib.hid (HB1.out.then k4); have A4 := Lib.hid a4; have hz4 := k4.size; have hz5 := a4.lt; have hz6 := HB1.out.bel.size; clear a4 k4))
    | (go_at_call 26; ((with_reducible refine (rCopy_any HB2.out.ok _ HB2.out.r).mono ?_); rintro e w5 ⟨X2, T2, G2, cT2, cG2, rfl, r5, k5, x5, t5, g5⟩; have HBa := Lib.hid (HB2.out.then k5); have HBb : Hid (Both w w5 w3.heap.size X2 T2 G2 cT2 cG2 s1) := Lib.hid ⟨A4.out.then k5, r5, (HB2.out.then k5).bel, HB2.out.ok, by omega, by omega, by omega, by omega, by omega, by omega, by omega⟩; have QX := HB1.out.r.x.lt; have QT := HB1.out.r.tl; have QG := HB1.out.r.gl; have QB := HB1.out.a.lt; clear r5 k5 HB1 HB2 A4))
    | (go_at_call 24; ((with_reducible refine (play_any (n0 := 100) more c2 _ HRd2.out L2.out HBb.out HG1.out (by omega)).mono ?_); rintro e w6 ⟨rfl, b6, k6, _⟩; have HBb2 := Lib.hid b6; have HBa2 := Lib.hid (HBa.out.kept k6 ⟨by omega, by omega, by omega⟩ ⟨by omega, by omega, by omega⟩ ⟨by omega, by omega, by omega⟩ ⟨by omega, by omega, by omega⟩ (fun i hi => ⟨by omega, by omega, by omega⟩)); clear b6 k6 HBa HBb HRd2 HG1; generalize runS s1 more = s2 at *))
    | (go_at_call 23; ((with_reducible refine (all_form w.heap.size s1 HBa2.out.ok _ HBa2.out.a).mono ?_); rintro e w7 ⟨A7, c7, rfl, o7, k7⟩; have HBa3 := Lib.hid (HBa2.out.then k7); have HBb3 := Lib.hid (HBb2.out.then k7); have O7 := Lib.hid o7; have ZA := HBa2.out.a.lt; have ZX := HBa2.out.r.x.lt; have ZT := HBa2.out.r.tl; have ZG := HBa2.out.r.gl; have YA := HBb2.out.a.lt; have YX := HBb2.out.r.x.lt; have YT := HBb2.out.r.tl; have YG := HBb2.out.r.gl; have hz9 := HBa2.out.bel.size; clear o7 k7 HBa2 HBb2)))
  have hmm : many s1.tk ≤ 64 := Nat.le_trans (List.countP_le_length) HBa3.out.ok.le
  go_loopw [14] (fun i wr => ∃ k : Nat, i = .int .i64 k ∧ k ≤ many s1.tk ∧ Both w wr w.heap.size X T G cT cG s1 ∧ Both w wr w3.heap.size X2 T2 G2 cT2 cG2 s2 ∧ wr.heap.size = w7.heap.size ∧ ∀ g, A7 = some ⟨g, 0, none⟩ → 0 < many s1.tk → (∀ i, i < many s1.tk → ∃ u, wr.cell? ⟨g, i, none⟩ = some u) ∧ ∀ i, wr.frozen? ⟨g, i, none⟩ = false) (fun i _ => many s1.tk - (intOf i).toNat)
  case atStart =>
    refine ⟨0, rfl, Nat.zero_le _, HBa3.out, HBb3.out, rfl, fun g hg h0 => ?_⟩
    obtain ⟨g', e, _, _, q1, q2⟩ := O7.out.there h0
    rw [hg] at e; cases e
    exact ⟨q1, q2⟩
  case round =>
    obtain ⟨k, rfl, hk, hBa, hBb, hsz, hq⟩ := hrel
    have HBa4 := Lib.hid hBa
    have HBb4 := Lib.hid hBb
    have HQ := Lib.hid hq
    have HSZ := Lib.hid hsz
    clear hBa hBb hq HBa3 HBb3 hsz
    by_cases hlt : k < many s1.tk
    · have j1 : (k : Int) < many s1.tk := by omega
      obtain ⟨g, rfl, hg0, hg1, _⟩ := O7.out.there (by omega)
      obtain ⟨q1, q2⟩ := HQ.out g rfl (by omega)
      obtain ⟨u, q3⟩ := q1 k hlt
      have q4 := q2 k
      have Q1 := Lib.hid q1
      have Q2 := Lib.hid q2
      have G0 := Lib.hid hg0
      clear q1 q2 hg0
      go_wp2
      have hkp : Kept wr (wr.setCell ⟨g, k, none⟩ (.int .i64 (-5))) (· ≠ g) := (Kept.refl _ _).set (by simp) _
      have g0 := G0.out
      have e1 := HBa4.out.kept hkp (by omega) (by omega) (by omega) (by omega) (fun i hi => by omega)
      have e2 := HBb4.out.kept hkp (by omega) (by omega) (by omega) (by omega) (fun i hi => by omega)
      have e3 : (wr.setCell ⟨g, k, none⟩ (.int .i64 (-5))).heap.size = w7.heap.size := by have := HSZ.out; simpa [World.setCell] using this
      go_roundw
      case rel =>
        refine ⟨k + 1, by go_num, by omega, e1, e2, e3, fun g' hg' _ => ?_⟩
        cases hg'
        refine ⟨fun i hi => ?_, fun i => by simp; exact Q2.out i⟩
        by_cases e : k = i
        · subst e
          exact ⟨_, World.cell?_setCell_same _ _ _ q3⟩
        · obtain ⟨u2, q5⟩ := Q1.out i hi
          exact ⟨u2, by rw [cell_set_ne (fun x => e (by injection x))]; exact q5⟩
      case measure => simp [intOf]; omega
    · have e : k = many s1.tk := by omega
      subst e
      clear HQ O7 ZA ZX ZT ZG YA YX YT YG HSZ
      have LM : (allL s1.tk s1.tk.length).length ≤ 1000 := by rw [allL_many]; exact Nat.le_trans hmm (by decide)
      have LM2 : (allL s2.tk s2.tk.length).length ≤ 1000 := by rw [allL_many]; exact Nat.le_trans (Nat.le_trans (List.countP_le_length) HBb4.out.ok.le) (by decide)
      have LA := Lib.hid LM
      have LB := Lib.hid LM2
      clear LM LM2
      go_wp2_with (first
        | (go_at_call 23; ((with_reducible refine (all_form w.heap.size s1 HBa4.out.ok _ HBa4.out.a).mono ?_); rintro e w8 ⟨A8, c8, rfl, o8, k8⟩; have HBa5 := Lib.hid (HBa4.out.then k8); have HBb5 := Lib.hid (HBb4.out.then k8); have O8 := Lib.hid o8; clear o8 k8))
        | (go_at_call 20; ((with_reducible refine (rAll_form HBa5.out.ok.le _ HBa5.out.r).mono ?_); rintro e w9 ⟨A9, c9, rfl, o9, k9⟩; have HBa6 := Lib.hid (HBa5.out.then k9); have HBb6 := Lib.hid (HBb5.out.then k9); have O9 := Lib.hid o9; have O8b := Lib.hid (O8.out.below k9); clear o9 k9))
        | (go_at_call 22; ((with_reducible refine (same_yes LA.out _ O8b.out O9.out).mono ?_); rintro e wa ⟨rfl, ka⟩; have HBa7 := Lib.hid (HBa6.out.then ka); have HBb7 := Lib.hid (HBb6.out.then ka); clear ka))
        | (go_at_call 23; ((with_reducible refine (all_form w3.heap.size s2 HBb7.out.ok _ HBb7.out.a).mono ?_); rintro e wb ⟨Ab, cb, rfl, ob, kb⟩; have HBa8 := Lib.hid (HBa7.out.then kb); have HBb8 := Lib.hid (HBb7.out.then kb); have Ob := Lib.hid ob; clear ob kb))
        | (go_at_call 20; ((with_reducible refine (rAll_form HBb8.out.ok.le _ HBb8.out.r).mono ?_); rintro e wc ⟨Ac, cc, rfl, oc, kc⟩; have HBa9 := Lib.hid (HBa8.out.then kc); have HBb9 := Lib.hid (HBb8.out.then kc); have Oc := Lib.hid oc; have Obb := Lib.hid (Ob.out.below kc); clear oc kc))
        | (go_at_call 22; ((with_reducible refine (same_yes LB.out _ Obb.out Oc.out).mono ?_); rintro e wd ⟨rfl, kd⟩; have HBaa := Lib.hid (HBa9.out.then kd); have HBba := Lib.hid (HBb9.out.then kd); clear kd))
        | (go_at_call 17; ((with_reducible refine (age_any w.heap.size s1 HBaa.out.ok 0 _ HBaa.out.a).mono ?_); rintro e we ⟨rfl, rfl⟩))
        | (go_at_call 18; ((with_reducible refine (rAge_any 0 _ HBaa.out.ok.le HBaa.out.ok.len HBaa.out.r).mono ?_); rintro e we ⟨rfl, rfl⟩))
        | (go_at_call 17; ((with_reducible refine (age_any w3.heap.size s2 HBba.out.ok 0 _ HBba.out.a).mono ?_); rintro e we ⟨rfl, rfl⟩))
        | (go_at_call 18; ((with_reducible refine (rAge_any 0 _ HBba.out.ok.le HBba.out.ok.len HBba.out.r).mono ?_); rintro e we ⟨rfl, rfl⟩)))
      go_ret
      exact ⟨rfl, HBaa.out.bel⟩
end Go.Proofs.Ytaofhooddbkglaa
