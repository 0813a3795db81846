/-
  WALK: the law IndexPlays.
-/
import Derived.Test.YtpdhfogmdhnoeaaIActs
import Derived.Test.YtpdhfogmdhnoeaaITells
namespace Go.Proofs.Ytpdhfogmdhnoeaa.IX
open Go.RowKit HL
set_option maxRecDepth 100000
set_option linter.unusedVariables false
set_option linter.unusedSimpArgs false

theorem Both.b1 {w0 W W1 : World} {B X : Nat} {v vH vN : Value} {l : List Rw} (h : Both w0 W B X v vH vN l) (k1 : Kept W W1 (fun k => k ≠ B ∧ v.ownBlock ≠ some k)) : Below w0.heap.size w0 W1 :=
  h.bel.trans (k1.below h.bel.size (fun i hi => ⟨by have := h.b0; omega, fun e => by have := (h.v0 i e).1; omega⟩))
theorem Both.tells {w0 W : World} {B X : Nat} {v vH vN : Value} {l : List Rw} (hB : Both w0 W B X v vH vN l) (h : Bs) (i : Int) (hn : l.length ≤ 300) (hh : h.length ≤ maxLen) :
    Calls Try.prog 15 #[ptr B, ptr X, str h, .int .i64 i] W fun e w' => e = .returned (.bool true) ∧ Both w0 w' B X v vH vN l :=
  (tells_any B X v vH vN l h i W hB.a hB.r hn hh hB.max).mono fun e w' ⟨he, hb⟩ => ⟨he, hB.then hb⟩
/-- The same acts of both, one call after the other. -/
theorem Both.take1 {w0 W : World} {B X : Nat} {v vH vN : Value} {l : List Rw} (hB : Both w0 W B X v vH vN l) (h : Bs) (hn : l.length ≤ 300) :
    Calls Try.prog 11 #[ptr B, str h] W fun e w' => ∃ v', e = .returned (.tuple #[.int .i64 (numOf l h), .int .i64 (takeE l h)]) ∧ IxAt w' B v' (takeL l h) ∧ (∀ k, v'.ownBlock = some k → v.ownBlock = some k ∨ W.heap.size ≤ k) ∧ Kept W w' (fun k => k ≠ B ∧ v.ownBlock ≠ some k) :=
  take_any B v l h W hB.a (by omega)
theorem Both.take2 {w0 W W1 : World} {B X : Nat} {v vH vN v1 : Value} {l : List Rw} (hB : Both w0 W B X v vH vN l) (h : Bs) (hn : l.length ≤ 300) (hh : h.length ≤ 100) (a1 : IxAt W1 B v1 (takeL l h)) (f1 : ∀ k, v1.ownBlock = some k → v.ownBlock = some k ∨ W.heap.size ≤ k) (k1 : Kept W W1 (fun k => k ≠ B ∧ v.ownBlock ≠ some k)) :
    Calls Try.prog 12 #[ptr X, str h] W1 fun e w' => ∃ vH' vN', e = .returned (.tuple #[.int .i64 (numOf l h), .int .i64 (takeE l h)]) ∧ Both w0 w' B X v1 vH' vN' (takeL l h) ∧ Kept W w' (fun k => ¬ Foot B X v vH vN k) ∧ ∀ k, Foot B X v1 vH' vN' k → Foot B X v vH vN k ∨ W.heap.size ≤ k :=
  (rTake_any X vH vN l h W1 (hB.rf k1) (by omega) (Nat.le_trans hh (by unfold maxLen; decide)) hB.max).mono fun e w' ⟨vH', vN', he, r2, fH, fN, k2⟩ =>
    ⟨vH', vN', he, hB.two a1 f1 k1 r2 fH fN k2 (fun r q => hB.k r (takeL_mem q))⟩
theorem Both.put1 {w0 W : World} {B X : Nat} {v vH vN : Value} {l : List Rw} (hB : Both w0 W B X v vH vN l) (h : Bs) (n : Int) (hn : l.length ≤ 300) (hh : h.length ≤ 100) :
    Calls Try.prog 13 #[ptr B, str h, .int .i64 n] W fun e w' => ∃ v', e = .returned (.int .i64 (putE l h n)) ∧ IxAt w' B v' (putL l h n) ∧ (∀ k, v'.ownBlock = some k → v.ownBlock = some k ∨ W.heap.size ≤ k) ∧ Kept W w' (fun k => k ≠ B ∧ v.ownBlock ≠ some k) :=
  put_any B v l h n W hB.a (by omega) (Nat.le_trans hh (by unfold maxLen; decide))
theorem Both.put2 {w0 W W1 : World} {B X : Nat} {v vH vN v1 : Value} {l : List Rw} (hB : Both w0 W B X v vH vN l) (h : Bs) (n : Int) (hn : l.length ≤ 300) (hh : h.length ≤ 100) (a1 : IxAt W1 B v1 (putL l h n)) (f1 : ∀ k, v1.ownBlock = some k → v.ownBlock = some k ∨ W.heap.size ≤ k) (k1 : Kept W W1 (fun k => k ≠ B ∧ v.ownBlock ≠ some k)) :
    Calls Try.prog 14 #[ptr X, str h, .int .i64 n] W1 fun e w' => ∃ vH' vN', e = .returned (.int .i64 (putE l h n)) ∧ Both w0 w' B X v1 vH' vN' (putL l h n) ∧ Kept W w' (fun k => ¬ Foot B X v vH vN k) ∧ ∀ k, Foot B X v1 vH' vN' k → Foot B X v vH vN k ∨ W.heap.size ≤ k :=
  (rPut_any X vH vN l h n W1 (hB.rf k1) (by omega) (Nat.le_trans hh (by unfold maxLen; decide)) hB.max).mono fun e w' ⟨vH', vN', he, r2, fH, fN, k2⟩ =>
    ⟨vH', vN', he, hB.two a1 f1 k1 r2 fH fN k2 (fun r q => (putL_mem q).elim (hB.k r) (fun e => by subst e; exact hh))⟩
theorem up_nil : Up [] := by simp [Up, keys, Asc]
/-- Just made. -/
theorem Both.new {w W1 W2 : World} {X : Nat} (a1 : IxAt W1 w.heap.size (.slice none 0 0) []) (k1 : Below w.heap.size w W1) (hX : X = W1.heap.size) (hW : W2 = W1.alloc (.cells #[.slice none 0 0, .slice none 0 0] 30)) :
    Both w W2 w.heap.size X (.slice none 0 0) (.slice none 0 0) (.slice none 0 0) [] := by
  subst hX; subst hW
  have hz := a1.a.lt
  refine ⟨a1.then (bAl (Below.refl _ _) _), ⟨AtC.new _ _ _, OwnK.nil_ _ _ _, OwnK.nil_ _ _ _, by simp [Value.ownBlock], by simp [Value.ownBlock], up_nil⟩, bAl k1 _, Nat.le_refl _, k1.size, by omega, ?_, ?_, ?_, ?_⟩
  · intro k e; simp [Value.ownBlock] at e
  · intro k e; simp [Value.ownBlock] at e
  · intro k e; simp [Value.ownBlock] at e
  · intro r q; cases q
set_option maxHeartbeats 8000000 in
theorem plays_walk {A : Option Addr} (l : List Act1) (c : Nat) (h : Bs) (i : Int) (w : World) (hr : RdA w w.heap.size A l) (hm : l.length ≤ maxLen) (hx : ∀ x ∈ l, x.h.length ≤ maxLen) (hh : h.length ≤ maxLen) :
    Calls Try.prog 3 #[.slice A l.length c, str h, .int .i64 i] w fun e w' => e = .returned (.bool true) ∧ Below w.heap.size w w' := by
  have hh2 := hh
  unfold maxLen at hh2
  have hm2 := hm
  unfold maxLen at hm2
  have hb : Below w.heap.size w w := Below.refl _ _
  have CL := Lib.hid (long_any A c l w hr hm hx)
  cases hl : longB l with
  | true =>
    rw [hl] at CL
    clear hl
    go_enter Try.func3, Try.ntmps3
    go_wp2_with (go_at_call 9; ((with_reducible refine CL.out.mono ?_); rintro e w1 ⟨rfl, rfl⟩))
    go_ret
    exact ⟨rfl, hb⟩
  | false =>
    obtain ⟨l1, l2⟩ := longB_f hl
    rw [hl] at CL
    clear hl
    by_cases hl : 100 < h.length
    · have i1 : (100 : Int) < h.length := by omega
      go_enter Try.func3, Try.ntmps3
      go_wp2_with (go_at_call 9; ((with_reducible refine CL.out.mono ?_); rintro e w1 ⟨rfl, rfl⟩))
      go_ret
      exact ⟨rfl, hb⟩
    have i1 : ¬ (100 : Int) < h.length := by omega
    have HRd := Lib.hid hr
    have L2 := Lib.hid l2
    have C1 := Lib.hid (new_any w)
    clear hr hx hl l2
    go_enter Try.func3, Try.ntmps3
    go_wp2_with (first
      | (go_at_call 9; ((with_reducible refine CL.out.mono ?_); rintro e w1 ⟨rfl, rfl⟩))
      | (go_at_call 10; ((with_reducible refine C1.out.mono ?_); rintro e w1 ⟨rfl, a1, k1⟩; have A1 := Lib.hid a1; have K1 := Lib.hid k1; clear a1 k1)))
    have HB0 := Lib.hid (Both.new A1.out K1.out rfl rfl)
    clear A1 K1 C1 CL hb
    generalize w1.alloc (.cells #[.slice none 0 0, .slice none 0 0] 30) = W2 at *
    generalize w1.heap.size = X at *
    have HEq := Lib.hid (Eq.refl w.heap.size)
    obtain ⟨B, hBe⟩ : ∃ B, w.heap.size = B := ⟨_, rfl⟩
    rw [hBe] at HB0 ⊢
    go_loopw [9] (fun i wr => ∃ (k : Nat) (l' : List Rw) (v vH vN : Value), i = .int .i64 k ∧ k ≤ l.length ∧ l'.length ≤ k ∧ Both w wr B X v vH vN l') (fun i _ => l.length - (intOf i).toNat)
    case atStart => exact ⟨0, [], _, _, _, rfl, Nat.zero_le _, Nat.le_refl _, HB0.out⟩
    case round =>
      obtain ⟨k, l', v, vH, vN, rfl, hk, hlen, hB⟩ := hrel
      have HB := Lib.hid hB
      clear hB HB0
      by_cases hlt : k < l.length
      · have i2 : (k : Int) < l.length := by omega
        obtain ⟨b, o, rfl, hbl, hc⟩ := HRd.out.at_ (by omega)
        have hP : ∀ w', Below w.heap.size w w' → (w'.cell? ⟨b, o + k * 3, none⟩ = some (.bool (l[k]).take) ∧ w'.cell? ⟨b, o + k * 3 + 1, none⟩ = some (str (l[k]).h) ∧ w'.cell? ⟨b, o + k * 3 + 2, none⟩ = some (.int .i64 (l[k]).n)) := fun w' q =>
          ⟨(q.cell (p := ⟨b, _, none⟩) hbl).trans (hc k _ (List.getElem?_eq_getElem hlt)).1, (q.cell (p := ⟨b, _, none⟩) hbl).trans (hc k _ (List.getElem?_eq_getElem hlt)).2.1, (q.cell (p := ⟨b, _, none⟩) hbl).trans (hc k _ (List.getElem?_eq_getElem hlt)).2.2⟩
        have hxl := L2.out _ (List.getElem_mem hlt)
        clear hc
        generalize l[k] = x at *
        have HP := Lib.hid hP
        clear hP
        have hl3 : l'.length ≤ 300 := by omega
        have q3 := (HP.out _ HB.out.bel).1
        cases hg : x.take with
        | true =>
          rw [hg] at q3
          clear hg
          have q4 := (HP.out _ HB.out.bel).2.1
          have CT1 := Lib.hid (HB.out.take1 x.h hl3)
          have CT2 := Lib.hid (fun v1 W1 => HB.out.take2 (W1 := W1) (v1 := v1) x.h hl3 hxl)
          have HL : Hid ((takeL l' x.h).length ≤ l'.length) := Lib.hid (takeL_len _ _)
          generalize numOf l' x.h = a at *
          generalize takeE l' x.h = ee at *
          generalize takeL l' x.h = l2 at *
          have hl4 : l2.length ≤ 300 := by have := HL.out; omega
          go_wp2_with (first
            | (go_at_call 11; ((with_reducible refine CT1.out.mono ?_); rintro e w3 ⟨v1, rfl, a3, f3, k3⟩; have q5 := (HP.out _ (HB.out.b1 k3)).2.1; have A3 := Lib.hid a3; have F3 := Lib.hid f3; have K3 := Lib.hid k3; clear a3 f3 k3))
            | (go_at_call 12; ((with_reducible refine (CT2.out v1 _ A3.out F3.out K3.out).mono ?_); rintro e w4 ⟨vH1, vN1, rfl, b4, _, _⟩; have HB4 := Lib.hid b4; clear b4))
            | (go_at_call 15; ((with_reducible refine (HB4.out.tells h i hl4 hh).mono ?_); rintro e w5 ⟨rfl, b5⟩; have HB5 := Lib.hid b5; clear b5)))
          go_roundw
          case rel => exact ⟨k + 1, l2, v1, vH1, vN1, by go_num, by omega, by have := HL.out; omega, HB5.out⟩
          case measure => simp [intOf]; omega
        | false =>
          rw [hg] at q3
          clear hg
          have hdr : Below w.heap.size w wr.drew := HB.out.bel.drew
          have HBd := Lib.hid (HB.out.then (W1 := wr.drew) (Below.refl _ _).drew)
          have CT1 := Lib.hid (HBd.out.put1 x.h x.n hl3 hxl)
          have CT2 := Lib.hid (fun v1 W1 => HBd.out.put2 (W1 := W1) (v1 := v1) x.h x.n hl3 hxl)
          have HL : Hid ((putL l' x.h x.n).length ≤ l'.length + 1) := Lib.hid (putL_len _ _ _)
          generalize putE l' x.h x.n = ee at *
          generalize putL l' x.h x.n = l2 at *
          have hl4 : l2.length ≤ 300 := by have := HL.out; omega
          go_wp2_with fail
          go_region_held3 (fun w' => (w'.cell? ⟨b, o + k * 3, none⟩ = some (.bool x.take) ∧ w'.cell? ⟨b, o + k * 3 + 1, none⟩ = some (str x.h) ∧ w'.cell? ⟨b, o + k * 3 + 2, none⟩ = some (.int .i64 x.n)) ∧ Below w.heap.size w w')
            (first | with_reducible exact ⟨HP.out _ k3, k3⟩ | with_reducible exact ⟨HP.out _ HB4.out.bel, HB4.out.bel⟩ | with_reducible exact ⟨HP.out _ hdr, hdr⟩)
            (first
            | (go_at_call 13; (with_reducible refine CT1.out.mono ?_); rintro e w3 ⟨v1, rfl, a3, f3, kk3⟩; have k3 := HBd.out.b1 kk3; have A3 := Lib.hid a3; have F3 := Lib.hid f3; have K3 := Lib.hid kk3; clear a3 f3 kk3)
            | (go_at_call 14; (with_reducible refine (CT2.out v1 _ A3.out F3.out K3.out).mono ?_); rintro e w4 ⟨vH1, vN1, rfl, b4, _, _⟩; have HB4 := Lib.hid b4; clear k3 b4))
          go_wp2_with (go_at_call 15; ((with_reducible refine (HB4.out.tells h i hl4 hh).mono ?_); rintro e w5 ⟨rfl, b5⟩; have HB5 := Lib.hid b5; clear b5))
          go_roundw
          case rel => exact ⟨k + 1, l2, v1, vH1, vN1, by go_num, by omega, by have := HL.out; omega, HB5.out⟩
          case measure => simp [intOf]; omega
      · have e : k = l.length := by omega
        subst e
        go_wp2_with (go_at_call 15; ((with_reducible refine (HB.out.tells h i (by omega) hh).mono ?_); rintro e w5 ⟨rfl, b5⟩))
        go_ret
        exact ⟨rfl, hBe ▸ b5.bel⟩
end Go.Proofs.Ytpdhfogmdhnoeaa.IX
