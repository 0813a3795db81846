/-
  WALK: the law ArenaPlays.
-/
import Derived.Test.YtaofhooddbkglaaARefCopy
namespace Go.Proofs.Ytaofhooddbkglaa
open Go.RowKit
set_option maxRecDepth 100000
set_option linter.unusedVariables false
set_option linter.unusedSimpArgs false

theorem allL_many (l : List Bool) : (allL l l.length).length = many l := by
  unfold allL many
  rw [List.length_map, ← List.countP_eq_length_filter]
  have e : l = (List.range l.length).map fun i => l.getD i false := by
    apply List.ext_getElem
    · simp
    · intro i h1 h2
      simp [h1]
  have := List.countP_map (p := id) (f := fun i => l.getD i false) (l := List.range l.length)
  rw [← e] at this
  rw [this]; rfl
theorem take_ag {s : Ar} {k : Nat} (h : ∀ i, s.ag.getD i 0 ≤ k) : ∀ i, (takeS s).ag.getD i 0 ≤ k + 1 := by
  intro i
  unfold takeS
  split
  · simp only [List.getD_eq_getElem?_getD, List.getElem?_set]
    have h1 := h i
    have h2 := h (freeIx s.tk)
    simp only [List.getD_eq_getElem?_getD] at h1 h2
    by_cases e : freeIx s.tk = i
    · subst e
      by_cases q : freeIx s.tk < s.ag.length
      · simp [q]; simp [q] at h2; omega
      · simp [q]
    · simp [e]; omega
  · have := h i; omega
theorem give_ag {s : Ar} {k : Nat} (x : Int) (h : ∀ i, s.ag.getD i 0 ≤ k) : ∀ i, (giveS s x).ag.getD i 0 ≤ k := by
  intro i; unfold giveS; split <;> exact h i
theorem take_len (s : Ar) : (takeS s).tk.length = s.tk.length := by unfold takeS; split <;> simp
theorem give_len (s : Ar) (x : Int) : (giveS s x).tk.length = s.tk.length := by unfold giveS; split <;> simp
/-- What happens to an arena. -/
structure Act1 where
  give : Bool
  k : Int
/-- The cells behind A, below block B, are the acts l. -/
def RdA (w : World) (B : Nat) (A : Option Addr) (l : List Act1) : Prop := l = [] ∨ ∃ b off, A = some ⟨b, off, none⟩ ∧ b < B ∧ ∀ j x, l[j]? = some x → w.cell? ⟨b, off + j * 2, none⟩ = some (.bool x.give) ∧ w.cell? ⟨b, off + j * 2 + 1, none⟩ = some (.int .i64 x.k)
theorem RdA.at_ {w : World} {B : Nat} {A : Option Addr} {l : List Act1} (h : RdA w B A l) (h0 : 0 < l.length) : ∃ b off, A = some ⟨b, off, none⟩ ∧ b < B ∧ ∀ j x, l[j]? = some x → w.cell? ⟨b, off + j * 2, none⟩ = some (.bool x.give) ∧ w.cell? ⟨b, off + j * 2 + 1, none⟩ = some (.int .i64 x.k) := by
  rcases h with rfl | h
  · simp at h0
  · exact h
theorem rAll_form {X T G cT cG : Nat} {s : Ar} (hle : s.tk.length ≤ 64) (w : World) (hR : RfAt w X T G cT cG s) : Calls Try.prog 20 #[ptr X] w fun e w' => ∃ A c, e = .returned (.slice A (many s.tk) c) ∧ OwnI w' w.heap.size (.slice A (many s.tk) c) (allL s.tk s.tk.length) ∧ Below w.heap.size w w' :=
  (rAll_any hle w hR).mono fun e w' ⟨v, he, ho, hb⟩ => by
    obtain ⟨A, c, rfl, _⟩ := ho.form
    rw [allL_many] at he ho
    exact ⟨A, c, he, ho, hb⟩
theorem all_form (B : Nat) (s : Ar) (hs : ArOk s) (w : World) (hA : AtC w B (arC B s)) : Calls Try.prog 23 #[ptr B] w fun e w' => ∃ A c, e = .returned (.slice A (many s.tk) c) ∧ OwnI w' w.heap.size (.slice A (many s.tk) c) (allL s.tk s.tk.length) ∧ Below w.heap.size w w' :=
  (all_any B s hs w hA).mono fun e w' ⟨v, he, ho, hb⟩ => by
    obtain ⟨A, c, rfl, _⟩ := ho.form
    rw [allL_many] at he ho
    exact ⟨A, c, he, ho, hb⟩
/-- The arena and the document's, side by side, at one state. -/
structure Both (w0 W : World) (B X T G cT cG : Nat) (s : Ar) : Prop where
  a : AtC W B (arC B s)
  r : RfAt W X T G cT cG s
  bel : Below w0.heap.size w0 W
  ok : ArOk s
  b0 : w0.heap.size ≤ B
  x0 : w0.heap.size ≤ X
  t0 : w0.heap.size ≤ T
  g0 : w0.heap.size ≤ G
  bx : X ≠ B
  bt : T ≠ B
  bg : G ≠ B
theorem Both.then {w0 W W1 : World} {B X T G cT cG : Nat} {s : Ar} (h : Both w0 W B X T G cT cG s) (k : Below W.heap.size W W1) : Both w0 W1 B X T G cT cG s :=
  ⟨h.a.then k, h.r.then k, bThen h.bel k, h.ok, h.b0, h.x0, h.t0, h.g0, h.bx, h.bt, h.bg⟩
/-- A call that turned the arena alone, then one that turned the document's. -/
theorem Both.two {w0 W W1 W2 : World} {B X T G cT cG : Nat} {s s' : Ar} (h : Both w0 W B X T G cT cG s) (a1 : AtC W1 B (arC B s')) (k1 : Kept W W1 (· ≠ B)) (r2 : RfAt W2 X T G cT cG s') (k2 : Kept W1 W2 (fun b => b ≠ T ∧ b ≠ G)) (ok : ArOk s') : Both w0 W2 B X T G cT cG s' :=
  ⟨a1.kept k2 ⟨fun e => h.bt e.symm, fun e => h.bg e.symm⟩, r2, bKept (bKept h.bel k1 (fun i hi => by have := h.b0; show i ≠ B; omega)) k2 (fun i hi => by have := h.t0; have := h.g0; exact ⟨by omega, by omega⟩), ok, h.b0, h.x0, h.t0, h.g0, h.bx, h.bt, h.bg⟩
theorem Both.rf {w0 W W1 : World} {B X T G cT cG : Nat} {s : Ar} (h : Both w0 W B X T G cT cG s) (k1 : Kept W W1 (· ≠ B)) : RfAt W1 X T G cT cG s := h.r.kept k1 h.bx h.bt h.bg
theorem size_is {B : Nat} {s : Ar} {m : Nat} (h : s.tk.length = m) (w : World) (hA : AtC w B (arC B s)) : Calls Try.prog 21 #[ptr B] w fun e w' => e = .returned (.int .i64 m) ∧ w = w' := by
  subst h; exact size_any B s w hA
set_option maxHeartbeats 4000000 in
theorem plays_walk {A : Option Addr} (n : Int) (l : List Act1) (c : Nat) (w : World) (hr : RdA w w.heap.size A l) (hm : l.length ≤ maxLen) :
    Calls Try.prog 3 #[.int .i64 n, .slice A l.length c] w fun e w' => e = .returned (.bool true) ∧ Below w.heap.size w w' := by
  unfold maxLen at hm
  have hb : Below w.heap.size w w := Below.refl _ _
  by_cases hl : 300 < l.length
  · have i1 : (300 : Int) < l.length := by omega
    go_enter Try.func3, Try.ntmps3
    go_wp2
    go_ret
    exact ⟨rfl, hb⟩
  · have i1 : ¬ (300 : Int) < l.length := by omega
    by_cases hn : n < 1 ∨ 64 < n
    · have C1 := Lib.hid (new_no n w hn)
      have C2 := Lib.hid (rNew_no n w hn)
      clear hr hl
      go_enter Try.func3, Try.ntmps3
      go_wp2_with (first
        | (go_at_call 9; ((with_reducible refine C1.out.mono ?_); rintro e w1 ⟨rfl, rfl⟩))
        | (go_at_call 10; ((with_reducible refine C2.out.mono ?_); rintro e w1 ⟨rfl, rfl⟩)))
      go_ret
      exact ⟨rfl, hb⟩
    · obtain ⟨m, rfl⟩ := Int.eq_ofNat_of_zero_le (show 0 ≤ n by omega)
      have m1 : 1 ≤ m := by omega
      have m2 : m ≤ 64 := by omega
      have HRd := Lib.hid hr
      have C1 := Lib.hid (new_yes m w m1 m2)
      have C2 := Lib.hid (fun W => rNew_yes m W m1 m2)
      clear hr hl hn
      go_enter Try.func3, Try.ntmps3
      go_wp2_with (first
        | (go_at_call 9; ((with_reducible refine C1.out.mono ?_); rintro e w1 ⟨rfl, a1, k1⟩; have hz1 := k1.size; have hz2 := a1.lt; have A1 := Lib.hid a1; clear a1))
        | (go_at_call 10; ((with_reducible refine (C2.out _).mono ?_); rintro e w2 ⟨X, T, G, cT, cG, rfl, r2, k2, x2, t2, g2⟩; have R2 := Lib.hid r2; clear r2)))
      have HB0 : Hid (Both w w2 w.heap.size X T G cT cG (newS m)) := Lib.hid ⟨A1.out.then k2, R2.out, bThen k1 k2, newS_ok m1 m2, Nat.le_refl _, by omega, by omega, by omega, by omega, by omega, by omega⟩
      clear A1 R2 k1 k2 C1 C2 hb
      generalize hBe : w.heap.size = B at *
      have HEq := Lib.hid hBe
      clear hBe
      go_loopw [9] (fun i wr => ∃ (k : Nat) (s : Ar), i = .int .i64 k ∧ k ≤ l.length ∧ s.tk.length = m ∧ (∀ i, s.ag.getD i 0 ≤ k) ∧ Both w wr B X T G cT cG s) (fun i _ => l.length - (intOf i).toNat)
      case atStart => exact ⟨0, newS m, rfl, Nat.zero_le _, by simp [newS], fun i => by rw [newS_ag]; exact Nat.le_refl _, HB0.out⟩
      case round =>
        obtain ⟨k, s, rfl, hk, hlen, hag, hB⟩ := hrel
        have HB := Lib.hid hB
        have HG := Lib.hid hag
        clear hB hag HB0
        by_cases hlt : k < l.length
        · have i2 : (k : Int) < l.length := by omega
          obtain ⟨b, o, rfl, hbl, hc⟩ := HRd.out.at_ (by omega)
          obtain ⟨q1, q2⟩ := hc k _ (List.getElem?_eq_getElem hlt)
          have q3 := (HB.out.bel.cell (p := ⟨b, o + k * 2, none⟩) (by rw [HEq.out]; exact hbl)).trans q1
          have q4 := (HB.out.bel.cell (p := ⟨b, o + k * 2 + 1, none⟩) (by rw [HEq.out]; exact hbl)).trans q2
          clear hc q1 q2
          generalize l[k] = x at *
          cases hg : x.give with
          | true =>
            rw [hg] at q3
            clear hg
            have HN : Hid ((giveS s x.k).tk.length = m) := Lib.hid (by rw [give_len]; exact hlen)
            go_wp2_with (first
            | (go_at_call 11; ((with_reducible refine (give_any B s HB.out.ok x.k _ HB.out.a).mono ?_); rintro e w1 ⟨rfl, a1, k1⟩; have R1 := Lib.hid (HB.out.rf k1); have A1 := Lib.hid a1; have K1 := Lib.hid k1; clear a1 k1))
            | (go_at_call 12; ((with_reducible refine (rGive_any x.k _ HB.out.ok.le R1.out).mono ?_); rintro e w2 ⟨rfl, r2, k2⟩; have HB2 := Lib.hid (HB.out.two A1.out K1.out r2 k2 (HB.out.ok.give x.k)); clear r2 k2))
            | (go_at_call 15; ((with_reducible refine (taken_any B _ HB2.out.ok x.k _ HB2.out.a).mono ?_); rintro e w5 ⟨rfl, k5⟩; have HB3 := Lib.hid (HB2.out.then k5)))
            | (go_at_call 16; ((with_reducible refine (rHas_any x.k _ HB3.out.ok.le HB3.out.r).mono ?_); rintro e w6 ⟨rfl, rfl⟩))
            | (go_at_call 17; ((with_reducible refine (age_any B _ HB3.out.ok x.k _ HB3.out.a).mono ?_); rintro e w6 ⟨rfl, rfl⟩))
            | (go_at_call 18; ((with_reducible refine (rAge_any x.k _ HB3.out.ok.le HB3.out.ok.len HB3.out.r).mono ?_); rintro e w6 ⟨rfl, rfl⟩))
            | (go_at_call 19; ((with_reducible refine (many_any B _ HB3.out.ok _ HB3.out.a).mono ?_); rintro e w6 ⟨rfl, rfl⟩))
            | (go_at_call 20; ((with_reducible refine (rAll_form HB3.out.ok.le _ HB3.out.r).mono ?_); rintro e w7 ⟨A7, c7, rfl, o7, k7⟩; have HB4 := Lib.hid (HB3.out.then k7); clear o7))
            | (go_at_call 21; ((with_reducible refine (size_is HN.out _ HB4.out.a).mono ?_); rintro e w8 ⟨rfl, rfl⟩)))
            go_roundw
            case rel => exact ⟨k + 1, giveS s x.k, by go_num, by omega, HN.out, fun i => Nat.le_trans (give_ag x.k HG.out i) (Nat.le_succ _), HB4.out⟩
            case measure => simp [intOf]; omega
          | false =>
            rw [hg] at q3
            clear hg
            have HN : Hid ((takeS s).tk.length = m) := Lib.hid (by rw [take_len]; exact hlen)
            go_wp2_with (first
            | (go_at_call 13; ((with_reducible refine (take_any B s HB.out.ok (fun i => Nat.le_trans (HG.out i) (by omega)) _ HB.out.a).mono ?_); rintro e w1 ⟨rfl, a1, k1⟩; have R1 := Lib.hid (HB.out.rf k1); have A1 := Lib.hid a1; have K1 := Lib.hid k1; clear a1 k1))
            | (go_at_call 14; ((with_reducible refine (rTake_any HB.out.ok (fun i => Nat.le_trans (HG.out i) (by omega)) _ R1.out).mono ?_); rintro e w2 ⟨rfl, r2, k2⟩; have HB2 := Lib.hid (HB.out.two A1.out K1.out r2 k2 HB.out.ok.take); clear r2 k2))
            | (go_at_call 15; ((with_reducible refine (taken_any B _ HB2.out.ok x.k _ HB2.out.a).mono ?_); rintro e w5 ⟨rfl, k5⟩; have HB3 := Lib.hid (HB2.out.then k5)))
            | (go_at_call 16; ((with_reducible refine (rHas_any x.k _ HB3.out.ok.le HB3.out.r).mono ?_); rintro e w6 ⟨rfl, rfl⟩))
            | (go_at_call 17; ((with_reducible refine (age_any B _ HB3.out.ok x.k _ HB3.out.a).mono ?_); rintro e w6 ⟨rfl, rfl⟩))
            | (go_at_call 18; ((with_reducible refine (rAge_any x.k _ HB3.out.ok.le HB3.out.ok.len HB3.out.r).mono ?_); rintro e w6 ⟨rfl, rfl⟩))
            | (go_at_call 19; ((with_reducible refine (many_any B _ HB3.out.ok _ HB3.out.a).mono ?_); rintro e w6 ⟨rfl, rfl⟩))
            | (go_at_call 20; ((with_reducible refine (rAll_form HB3.out.ok.le _ HB3.out.r).mono ?_); rintro e w7 ⟨A7, c7, rfl, o7, k7⟩; have HB4 := Lib.hid (HB3.out.then k7); clear o7))
            | (go_at_call 21; ((with_reducible refine (size_is HN.out _ HB4.out.a).mono ?_); rintro e w8 ⟨rfl, rfl⟩)))
            go_roundw
            case rel => exact ⟨k + 1, takeS s, by go_num, by omega, HN.out, take_ag HG.out, HB4.out⟩
            case measure => simp [intOf]; omega
        · have e : k = l.length := by omega
          subst e
          go_wp2_with (first
            | (go_at_call 23; ((with_reducible refine (all_form B s HB.out.ok _ HB.out.a).mono ?_); rintro e w7 ⟨A7, c7, rfl, o7, k7⟩; have HB4 := Lib.hid (HB.out.then k7); have O7 := Lib.hid o7; clear o7))
            | (go_at_call 20; ((with_reducible refine (rAll_form HB4.out.ok.le _ HB4.out.r).mono ?_); rintro e w8 ⟨A8, c8, rfl, o8, k8⟩; have HB5 := Lib.hid (HB4.out.then k8); have O8 := Lib.hid o8; have O7b := Lib.hid (O7.out.below k8); clear o8))
            | (go_at_call 22; ((with_reducible refine (same_yes (by rw [allL_many]; exact (Nat.le_trans (List.countP_le_length) (Nat.le_trans HB.out.ok.le (by decide)))) _ O7b.out O8.out).mono ?_); rintro e w9 ⟨rfl, k9⟩; have HB6 := Lib.hid (HB5.out.then k9))))
          go_ret
          exact ⟨rfl, HB6.out.bel⟩
end Go.Proofs.Ytaofhooddbkglaa
