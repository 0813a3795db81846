/-
  WALK: the law SpanBack.
-/
import Derived.Test.YtadbbpfnedbhcaaSAwake
namespace Go.Proofs.Ytadbbpfnedbhcaa
open Go.RowKit FixMath
set_option maxRecDepth 100000
set_option linter.unusedVariables false
set_option linter.unusedSimpArgs false

theorem fix_isText {n : Int} {d : Nat} (h : countsB n d = true) : isText (fixText n d) d ∧ readZ (fixText n d) = n :=
  ⟨isText_iff.2 ⟨by rw [readZ_fixText]; exact h, by rw [readZ_fixText]⟩, readZ_fixText n d⟩
theorem spParse_back {a b : Int} {d : Nat} (h : spanE a b = 0) (hd : d ≤ 6) : spParse (spText a b d) d = .tuple #[sp a b, .int .i64 0] := by
  obtain ⟨ca, cb⟩ := counts_of h hd
  unfold spParse spText
  rw [cut_text (noDD_fix a d)]
  show spParseV (fixText a d) (fixText b d) d = _
  have h1 := fix_isText ca
  have h2 := fix_isText cb
  rw [spParseV_2 h1.1 h2.1 (by rw [h1.2, h2.2]; have := spanE_iff.1 h; omega), h1.2, h2.2]
theorem spParse_cases (l : Bs) (d : Nat) : (∃ p q, spParse l d = .tuple #[sp p q, .int .i64 0] ∧ spanE p q = 0 ∧ d ≤ 6 ∧ spText p q d = l) ∨ spParse l d = .tuple #[sp 0 0, .int .i64 20] ∨ spParse l d = .tuple #[sp 0 0, .int .i64 30] := by
  unfold spParse
  by_cases h : isText (Lib.cut l dd).1 d ∧ isText (Lib.cut l dd).2.1 d
  · by_cases k : readZ (Lib.cut l dd).2.1 < readZ (Lib.cut l dd).1
    · exact .inr (.inr (spParseV_1 h.1 h.2 k))
    · refine .inl ⟨_, _, spParseV_2 h.1 h.2 k, spanE_4 (text_may h.1) (text_may h.2) k, h.1.1, ?_⟩
      have hc : (Lib.cut l dd).2.2 = true := by
        by_cases e : (Lib.cut l dd).2.2 = true
        · exact e
        · have := cut_none e
          rw [this] at h
          exact absurd h.2 (not_text_nil d)
      unfold spText
      rw [(isText_iff.1 h.1).2, (isText_iff.1 h.2).2]
      exact cut_join hc
  · exact .inr (.inl (spParseV_3 h))
theorem text_eq {a b : Int} {d : Nat} {v : Value} (h : spTextV a b d = v) (w : World) : Calls Try.prog 23 #[sp a b, .int .u8 d] w fun e w' => e = .returned v ∧ Below w.heap.size w w' := h ▸ spText_any a b d w
theorem parse_eq {s : ByteArray} {d : Nat} {v : Value} {m : Int} (h : spParse s.data.toList d = v) (hs : s.size ≤ 200) (w W : World) (hm : w.cell? ⟨0, 0, none⟩ = some (.int .i64 m)) (hlt : 0 < w.heap.size) (hb : Below w.heap.size w W) :
    Calls Try.prog 25 #[.string s, .int .u8 d] W fun e w' => e = .returned v ∧ Below W.heap.size W w' :=
  h ▸ spParse_any s d W hs m ((hb.cell (p := ⟨0, 0, none⟩) hlt).trans hm) (Nat.lt_of_lt_of_le hlt hb.size)

set_option maxHeartbeats 4000000 in
theorem back_ok (a b : Int) (d : Nat) (s : ByteArray) (w : World) (h200 : s.size ≤ 200) (m0 : Int) (hm : w.cell? ⟨0, 0, none⟩ = some (.int .i64 m0)) (hlt : 0 < w.heap.size) (h : spanE a b = 0) (hd : d ≤ 6) :
    Calls Try.prog 6 #[sp a b, .int .u8 d, .string s] w fun e w' => e = .returned (.bool true) ∧ Below w.heap.size w w' := by
  have hb : Below w.heap.size w w := Below.refl _ _
  have hb2 := bAl hb (.cells #[.int .i64 a, .int .i64 b] 23)
  have CA := Lib.hid (awake_any _ m0 ((hb2.cell (p := ⟨0, 0, none⟩) hlt).trans hm) (Nat.lt_of_lt_of_le hlt hb2.size))
  obtain ⟨ca, cb⟩ := counts_of h hd
  obtain ⟨t, ht⟩ : ∃ t : ByteArray, t.data.toList = spText a b d := ⟨⟨(spText a b d).toArray⟩, by simp⟩
  have et : str (spText a b d) = .string t := by rw [← ht]
  have tl : t.size ≤ 200 := by
    have e1 : t.size = t.data.toList.length := by simp
    have := text_len ca; have := text_len cb
    rw [e1, ht]; unfold spText
    simp
    omega
  have T1 := fun W => Lib.hid (text_eq (v := .tuple #[.string t, .int .i64 0]) ((spTextV_t h hd).trans (congrArg (fun z => Value.tuple #[z, .int .i64 0]) et)) W)
  have M1 := fun W => Lib.hid (spanMay_eq h W)
  have P1 := fun W hW => Lib.hid (parse_eq (s := t) ((congrArg (fun z => spParse z d) ht).trans (spParse_back h hd)) tl w W hm hlt hW)
  rcases spParse_cases s.data.toList d with ⟨p, q, hp, h1, h2, h3⟩ | hp | hp
  · have P2 := fun W hW => Lib.hid (parse_eq hp h200 w W hm hlt hW)
    have M2 := fun W => Lib.hid (spanMay_eq h1 W)
    have T2 := fun W => Lib.hid (text_eq (v := .tuple #[.string s, .int .i64 0]) ((spTextV_t h1 h2).trans (by rw [h3])) W)
    clear hm hlt hb2 h ca cb ht et tl hp h1 h3
    go_enter Try.func6, Try.ntmps6
    go_wp2_with (first
      | (go_at_call 27; (refine CA.out.mono ?_; rintro e w1 ⟨rfl, k1⟩; replace hb := bThen (bAl hb _) k1; have mS := (At2.new _ _ _ _).then k1; have s0 := mS.c0; have s1 := mS.c1; have ls := mS.lt))
      | (go_at_call 10; first | ((with_reducible refine (M1 _).out.mono ?_); rintro e w2 ⟨rfl, k2⟩; replace hb := bThen hb k2; replace mS := mS.then k2; have s0 := mS.c0; have s1 := mS.c1; have ls := mS.lt) | ((with_reducible refine (M2 _).out.mono ?_); rintro e w6 ⟨rfl, k6⟩; replace hb := bThen hb k6))
      | (go_at_call 23; first | ((with_reducible refine (T1 _).out.mono ?_); rintro e w2 ⟨rfl, k2⟩; replace hb := bThen hb k2; replace mS := mS.then k2; have s0 := mS.c0; have s1 := mS.c1; have ls := mS.lt) | ((with_reducible refine (T2 _).out.mono ?_); rintro e w5 ⟨rfl, k5⟩; replace hb := bThen (bAl hb _) k5; have mU := (At2.new _ _ _ _).then k5; have u0 := mU.c0; have u1 := mU.c1))
      | (go_at_call 25; first | ((with_reducible refine (P1 _ hb).out.mono ?_); rintro e w3 ⟨rfl, k3⟩; replace hb := bThen hb k3; replace mS := mS.then k3; have s0 := mS.c0; have s1 := mS.c1; have ls := mS.lt) | ((with_reducible refine (P2 _ (bAl hb _)).out.mono ?_); rintro e w4 ⟨rfl, k4⟩; replace hb := bThen (bAl hb _) k4)))
    all_goals
      go_ret
      exact ⟨by simp, hb⟩
  · have P2 := fun W hW => Lib.hid (parse_eq hp h200 w W hm hlt hW)
    clear hm hlt hb2 h ca cb ht et tl hp
    go_enter Try.func6, Try.ntmps6
    go_wp2_with (first
      | (go_at_call 27; (refine CA.out.mono ?_; rintro e w1 ⟨rfl, k1⟩; replace hb := bThen (bAl hb _) k1; have mS := (At2.new _ _ _ _).then k1; have s0 := mS.c0; have s1 := mS.c1; have ls := mS.lt))
      | (go_at_call 10; first | ((with_reducible refine (M1 _).out.mono ?_); rintro e w2 ⟨rfl, k2⟩; replace hb := bThen hb k2; replace mS := mS.then k2; have s0 := mS.c0; have s1 := mS.c1; have ls := mS.lt))
      | (go_at_call 23; first | ((with_reducible refine (T1 _).out.mono ?_); rintro e w2 ⟨rfl, k2⟩; replace hb := bThen hb k2; replace mS := mS.then k2; have s0 := mS.c0; have s1 := mS.c1; have ls := mS.lt))
      | (go_at_call 25; first | ((with_reducible refine (P1 _ hb).out.mono ?_); rintro e w3 ⟨rfl, k3⟩; replace hb := bThen hb k3; replace mS := mS.then k3; have s0 := mS.c0; have s1 := mS.c1; have ls := mS.lt) | ((with_reducible refine (P2 _ (bAl hb _)).out.mono ?_); rintro e w4 ⟨rfl, k4⟩; replace hb := bThen (bAl hb _) k4)))
    all_goals
      go_ret
      exact ⟨by simp, bAl hb _⟩
  · have P2 := fun W hW => Lib.hid (parse_eq hp h200 w W hm hlt hW)
    clear hm hlt hb2 h ca cb ht et tl hp
    go_enter Try.func6, Try.ntmps6
    go_wp2_with (first
      | (go_at_call 27; (refine CA.out.mono ?_; rintro e w1 ⟨rfl, k1⟩; replace hb := bThen (bAl hb _) k1; have mS := (At2.new _ _ _ _).then k1; have s0 := mS.c0; have s1 := mS.c1; have ls := mS.lt))
      | (go_at_call 10; first | ((with_reducible refine (M1 _).out.mono ?_); rintro e w2 ⟨rfl, k2⟩; replace hb := bThen hb k2; replace mS := mS.then k2; have s0 := mS.c0; have s1 := mS.c1; have ls := mS.lt))
      | (go_at_call 23; first | ((with_reducible refine (T1 _).out.mono ?_); rintro e w2 ⟨rfl, k2⟩; replace hb := bThen hb k2; replace mS := mS.then k2; have s0 := mS.c0; have s1 := mS.c1; have ls := mS.lt))
      | (go_at_call 25; first | ((with_reducible refine (P1 _ hb).out.mono ?_); rintro e w3 ⟨rfl, k3⟩; replace hb := bThen hb k3; replace mS := mS.then k3; have s0 := mS.c0; have s1 := mS.c1; have ls := mS.lt) | ((with_reducible refine (P2 _ (bAl hb _)).out.mono ?_); rintro e w4 ⟨rfl, k4⟩; replace hb := bThen (bAl hb _) k4)))
    all_goals
      go_ret
      exact ⟨by simp, bAl hb _⟩

set_option maxHeartbeats 4000000 in
theorem back_e (a b : Int) (d : Nat) (s : ByteArray) (w : World) (h200 : s.size ≤ 200) (m0 : Int) (hm : w.cell? ⟨0, 0, none⟩ = some (.int .i64 m0)) (hlt : 0 < w.heap.size) (h : ¬ spanE a b = 0) :
    Calls Try.prog 6 #[sp a b, .int .u8 d, .string s] w fun e w' => e = .returned (.bool true) ∧ Below w.heap.size w w' := by
  have hb : Below w.heap.size w w := Below.refl _ _
  have hb2 := bAl hb (.cells #[.int .i64 a, .int .i64 b] 23)
  have CA := Lib.hid (awake_any _ m0 ((hb2.cell (p := ⟨0, 0, none⟩) hlt).trans hm) (Nat.lt_of_lt_of_le hlt hb2.size))
  obtain ⟨e0, he⟩ : ∃ e0, spanE a b = e0 := ⟨_, rfl⟩
  rw [he] at h
  have T1 := fun W => Lib.hid (text_eq (spTextV_0 (d := d) he h) W)
  have M1 := fun W => Lib.hid (spanMay_eq he W)
  rcases spParse_cases s.data.toList d with ⟨p, q, hp, h1, h2, h3⟩ | hp | hp
  · have P2 := fun W hW => Lib.hid (parse_eq hp h200 w W hm hlt hW)
    have M2 := fun W => Lib.hid (spanMay_eq h1 W)
    have T2 := fun W => Lib.hid (text_eq (v := .tuple #[.string s, .int .i64 0]) ((spTextV_t h1 h2).trans (by rw [h3])) W)
    clear hm hlt hb2 he hp h1 h3
    go_enter Try.func6, Try.ntmps6
    go_wp2_with (first
      | (go_at_call 27; (refine CA.out.mono ?_; rintro e w1 ⟨rfl, k1⟩; replace hb := bThen (bAl hb _) k1; have mS := (At2.new _ _ _ _).then k1; have s0 := mS.c0; have s1 := mS.c1; have ls := mS.lt))
      | (go_at_call 10; first | ((with_reducible refine (M1 _).out.mono ?_); rintro e w2 ⟨rfl, k2⟩; replace hb := bThen hb k2; replace mS := mS.then k2; have s0 := mS.c0; have s1 := mS.c1; have ls := mS.lt) | ((with_reducible refine (M2 _).out.mono ?_); rintro e w6 ⟨rfl, k6⟩; replace hb := bThen hb k6))
      | (go_at_call 23; first | ((with_reducible refine (T1 _).out.mono ?_); rintro e w2 ⟨rfl, k2⟩; replace hb := bThen hb k2; replace mS := mS.then k2; have s0 := mS.c0; have s1 := mS.c1; have ls := mS.lt) | ((with_reducible refine (T2 _).out.mono ?_); rintro e w5 ⟨rfl, k5⟩; replace hb := bThen (bAl hb _) k5; have mU := (At2.new _ _ _ _).then k5; have u0 := mU.c0; have u1 := mU.c1))
      | (go_at_call 25; first | ((with_reducible refine (P2 _ hb).out.mono ?_); rintro e w4 ⟨rfl, k4⟩; replace hb := bThen hb k4)))
    all_goals
      go_ret
      exact ⟨by simp, hb⟩
  · have P2 := fun W hW => Lib.hid (parse_eq hp h200 w W hm hlt hW)
    clear hm hlt hb2 he hp
    go_enter Try.func6, Try.ntmps6
    go_wp2_with (first
      | (go_at_call 27; (refine CA.out.mono ?_; rintro e w1 ⟨rfl, k1⟩; replace hb := bThen (bAl hb _) k1; have mS := (At2.new _ _ _ _).then k1; have s0 := mS.c0; have s1 := mS.c1; have ls := mS.lt))
      | (go_at_call 10; first | ((with_reducible refine (M1 _).out.mono ?_); rintro e w2 ⟨rfl, k2⟩; replace hb := bThen hb k2; replace mS := mS.then k2; have s0 := mS.c0; have s1 := mS.c1; have ls := mS.lt))
      | (go_at_call 23; first | ((with_reducible refine (T1 _).out.mono ?_); rintro e w2 ⟨rfl, k2⟩; replace hb := bThen hb k2; replace mS := mS.then k2; have s0 := mS.c0; have s1 := mS.c1; have ls := mS.lt))
      | (go_at_call 25; first | ((with_reducible refine (P2 _ hb).out.mono ?_); rintro e w4 ⟨rfl, k4⟩; replace hb := bThen hb k4)))
    all_goals
      go_ret
      exact ⟨by simp, bAl hb _⟩
  · have P2 := fun W hW => Lib.hid (parse_eq hp h200 w W hm hlt hW)
    clear hm hlt hb2 he hp
    go_enter Try.func6, Try.ntmps6
    go_wp2_with (first
      | (go_at_call 27; (refine CA.out.mono ?_; rintro e w1 ⟨rfl, k1⟩; replace hb := bThen (bAl hb _) k1; have mS := (At2.new _ _ _ _).then k1; have s0 := mS.c0; have s1 := mS.c1; have ls := mS.lt))
      | (go_at_call 10; first | ((with_reducible refine (M1 _).out.mono ?_); rintro e w2 ⟨rfl, k2⟩; replace hb := bThen hb k2; replace mS := mS.then k2; have s0 := mS.c0; have s1 := mS.c1; have ls := mS.lt))
      | (go_at_call 23; first | ((with_reducible refine (T1 _).out.mono ?_); rintro e w2 ⟨rfl, k2⟩; replace hb := bThen hb k2; replace mS := mS.then k2; have s0 := mS.c0; have s1 := mS.c1; have ls := mS.lt))
      | (go_at_call 25; first | ((with_reducible refine (P2 _ hb).out.mono ?_); rintro e w4 ⟨rfl, k4⟩; replace hb := bThen hb k4)))
    all_goals
      go_ret
      exact ⟨by simp, bAl hb _⟩

set_option maxHeartbeats 4000000 in
theorem back_d (a b : Int) (d : Nat) (s : ByteArray) (w : World) (h200 : s.size ≤ 200) (m0 : Int) (hm : w.cell? ⟨0, 0, none⟩ = some (.int .i64 m0)) (hlt : 0 < w.heap.size) (h : spanE a b = 0) (hd : 6 < d) :
    Calls Try.prog 6 #[sp a b, .int .u8 d, .string s] w fun e w' => e = .returned (.bool true) ∧ Below w.heap.size w w' := by
  have hb : Below w.heap.size w w := Below.refl _ _
  have hb2 := bAl hb (.cells #[.int .i64 a, .int .i64 b] 23)
  have CA := Lib.hid (awake_any _ m0 ((hb2.cell (p := ⟨0, 0, none⟩) hlt).trans hm) (Nat.lt_of_lt_of_le hlt hb2.size))
  have T1 := fun W => Lib.hid (text_eq (spTextV_f h hd) W)
  have M1 := fun W => Lib.hid (spanMay_eq h W)
  rcases spParse_cases s.data.toList d with ⟨p, q, hp, h1, h2, h3⟩ | hp | hp
  · have P2 := fun W hW => Lib.hid (parse_eq hp h200 w W hm hlt hW)
    have M2 := fun W => Lib.hid (spanMay_eq h1 W)
    have T2 := fun W => Lib.hid (text_eq (v := .tuple #[.string s, .int .i64 0]) ((spTextV_t h1 h2).trans (by rw [h3])) W)
    clear hm hlt hb2 h hp h1 h3
    omega
  · have P2 := fun W hW => Lib.hid (parse_eq hp h200 w W hm hlt hW)
    clear hm hlt hb2 h hp
    go_enter Try.func6, Try.ntmps6
    go_wp2_with (first
      | (go_at_call 27; (refine CA.out.mono ?_; rintro e w1 ⟨rfl, k1⟩; replace hb := bThen (bAl hb _) k1; have mS := (At2.new _ _ _ _).then k1; have s0 := mS.c0; have s1 := mS.c1; have ls := mS.lt))
      | (go_at_call 10; first | ((with_reducible refine (M1 _).out.mono ?_); rintro e w2 ⟨rfl, k2⟩; replace hb := bThen hb k2; replace mS := mS.then k2; have s0 := mS.c0; have s1 := mS.c1; have ls := mS.lt))
      | (go_at_call 23; first | ((with_reducible refine (T1 _).out.mono ?_); rintro e w2 ⟨rfl, k2⟩; replace hb := bThen hb k2; replace mS := mS.then k2; have s0 := mS.c0; have s1 := mS.c1; have ls := mS.lt))
      | (go_at_call 25; first | ((with_reducible refine (P2 _ hb).out.mono ?_); rintro e w4 ⟨rfl, k4⟩; replace hb := bThen hb k4)))
    all_goals
      go_ret
      exact ⟨by simp, bAl hb _⟩
  · have P2 := fun W hW => Lib.hid (parse_eq hp h200 w W hm hlt hW)
    clear hm hlt hb2 h hp
    go_enter Try.func6, Try.ntmps6
    go_wp2_with (first
      | (go_at_call 27; (refine CA.out.mono ?_; rintro e w1 ⟨rfl, k1⟩; replace hb := bThen (bAl hb _) k1; have mS := (At2.new _ _ _ _).then k1; have s0 := mS.c0; have s1 := mS.c1; have ls := mS.lt))
      | (go_at_call 10; first | ((with_reducible refine (M1 _).out.mono ?_); rintro e w2 ⟨rfl, k2⟩; replace hb := bThen hb k2; replace mS := mS.then k2; have s0 := mS.c0; have s1 := mS.c1; have ls := mS.lt))
      | (go_at_call 23; first | ((with_reducible refine (T1 _).out.mono ?_); rintro e w2 ⟨rfl, k2⟩; replace hb := bThen hb k2; replace mS := mS.then k2; have s0 := mS.c0; have s1 := mS.c1; have ls := mS.lt))
      | (go_at_call 25; first | ((with_reducible refine (P2 _ hb).out.mono ?_); rintro e w4 ⟨rfl, k4⟩; replace hb := bThen hb k4)))
    all_goals
      go_ret
      exact ⟨by simp, bAl hb _⟩

theorem back_walk (a b : Int) (d : Nat) (s : ByteArray) (w : World) (hs : s.size ≤ maxLen) (m0 : Int) (hm : w.cell? ⟨0, 0, none⟩ = some (.int .i64 m0)) (hlt : 0 < w.heap.size) :
    Calls Try.prog 6 #[sp a b, .int .u8 d, .string s] w fun e w' => e = .returned (.bool true) ∧ Below w.heap.size w w' := by
  by_cases h200 : s.size ≤ 200
  · by_cases h : spanE a b = 0
    · by_cases hd : d ≤ 6
      · exact back_ok a b d s w h200 m0 hm hlt h hd
      · exact back_d a b d s w h200 m0 hm hlt h (by omega)
    · exact back_e a b d s w h200 m0 hm hlt h
  · have hb : Below w.heap.size w w := Below.refl _ _
    have hb2 := bAl hb (.cells #[.int .i64 a, .int .i64 b] 23)
    have CA := Lib.hid (awake_any _ m0 ((hb2.cell (p := ⟨0, 0, none⟩) hlt).trans hm) (Nat.lt_of_lt_of_le hlt hb2.size))
    unfold maxLen at hs
    clear hm hlt hb2
    go_enter Try.func6, Try.ntmps6
    go_wp2_with (first
      | (go_at_call 27; (refine CA.out.mono ?_; rintro e w1 ⟨rfl, k1⟩; replace hb := bThen (bAl hb _) k1; have mS := (At2.new _ _ _ _).then k1; have s0 := mS.c0; have s1 := mS.c1; have ls := mS.lt)))
    go_ret
    exact ⟨rfl, hb⟩
end Go.Proofs.Ytadbbpfnedbhcaa
