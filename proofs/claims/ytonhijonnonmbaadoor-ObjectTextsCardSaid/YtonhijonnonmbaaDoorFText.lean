/-
  WALK: the program's Text.
-/
import Derived.Test.YtonhijonnonmbaaDoorFRefText
namespace Go.Proofs.YtonhijonnonmbaaDoor
open Go.RowKit FixMath
set_option maxRecDepth 100000
set_option linter.unusedVariables false
set_option linter.unusedSimpArgs false

/-- What is written when p places are done. -/
def wrote (m d p : Nat) : Bs := if p ≤ d then low p m else low (p - d) (m / 10 ^ d) ++ FixMath.part d m
/-- The last cells of the array are these bytes. -/
def Tail (C : Array Value) (l : Bs) : Prop := C.size = 18 ∧ l.length ≤ 18 ∧ ∀ j (h : j < l.length), C[18 - l.length + j]? = some (.int .u8 (l[j].toNat : Int))
theorem Tail.push {C : Array Value} {l : Bs} (h : Tail C l) (hl : l.length < 18) (c : UInt8) : Tail (C.setIfInBounds (18 - l.length - 1) (.int .u8 (c.toNat : Int))) (c :: l) := by
  obtain ⟨h1, h2, h3⟩ := h
  refine ⟨by simp [h1], by simp; omega, ?_⟩
  intro j hj
  simp only [List.length_cons] at hj ⊢
  rw [Array.getElem?_setIfInBounds]
  cases j with
  | zero =>
    rw [if_pos (by omega), if_pos (by rw [h1]; omega)]
    simp
  | succ j =>
    rw [if_neg (by omega)]
    have := h3 j (by omega)
    rw [show 18 - (l.length + 1) + (j + 1) = 18 - l.length + j by omega, this]
    simp

theorem wrote_len (m d p : Nat) (hm : m ≤ 1000000000000000) (hd : d ≤ 6) (hp : p ≤ d + nd (m / 10 ^ d)) : (wrote m d p).length ≤ 17 := by
  have h1 : nd (m / 10 ^ d) ≤ 16 - d := by
    apply nd_le (by omega)
    apply Nat.div_lt_of_lt_mul
    rw [← Nat.pow_add, show d + (16 - d) = 16 by omega]
    omega
  unfold wrote
  split
  · rw [low_length]; omega
  · rw [List.length_append, low_length]
    unfold FixMath.part
    split
    · simp; omega
    · rw [List.length_cons, low_length]; omega

theorem conv_tail {C : Array Value} {l : Bs} (h : Tail C l) (A : Nat) (hA : A + l.length = 18) (w : World) : (convert 70 9 (.slice (some ⟨w.heap.size, A, none⟩) (18 - A) (18 - A))).run Tryd.prog (w.alloc (.cells C 132)) = .ok (str l) (w.alloc (.cells C 132)) := by
  have e : 18 - A = l.length := by omega
  rw [e]
  exact run_convert_bytes_back (l := l) _ _ _ 5 _ _ Tryd.underlying70 Tryd.underlying5 Tryd.underlying9 (fun j hj => by
    have := h.2.2 j hj
    rw [show 18 - l.length = A by omega] at this
    have ea : (⟨w.heap.size, A, none⟩ : Addr).add j = ⟨w.heap.size, A + j, none⟩ := by
      unfold Addr.add
      split
      · rename_i h0; subst h0; rfl
      · rfl
    rw [ea, World.cell?_alloc_mark]
    exact this)
theorem slice_tail (A : Nat) (hA : A < 18) (b : Nat) (W : World) : (Instr.sliceAt 132 (.pointer (some ⟨b, 0, none⟩)) (some (.int .i64 A)) none none).run Tryd.prog W = .ok (.slice (some ⟨b, A, none⟩) (18 - A) (18 - A)) W := by
  have hal : Tryd.prog.arrayLen 132 = 18 := by kernel_rfl
  have hel : Tryd.prog.elem 132 = 5 := by kernel_rfl
  have hs : (sizeOf 5).run Tryd.prog W = .ok 1 W := by kernel_rfl
  rw [run_sliceAt_array_l W 132 ⟨b, 0, none⟩ (by rw [hal, hel]; exact Tryd.underlying132) .i64 (A : Int) (by omega) (by rw [hal]; omega), hal, hel, hs]
  have h1 : ¬ 18 = A := by omega
  simp only [Result.andThen, slicedAt, Int.toNat_natCast, if_neg h1]
  congr 3
  unfold Addr.add
  split
  · rename_i h0; have : A = 0 := by omega
    subst this; rfl
  · simp
theorem Tail.digit {C : Array Value} {l : Bs} (h : Tail C l) {B : Nat} (hB : B + 1 + l.length = 18) (q : Nat) : Tail (C.setIfInBounds B (.int .u8 (48 + (q : Int) % 10))) (dig q :: l) := by
  have := h.push (by omega) (dig q)
  rw [show 18 - l.length - 1 = B by omega, dig_toNat] at this
  have e : ((48 + q % 10 : Nat) : Int) = 48 + (q : Int) % 10 := by omega
  rw [e] at this
  exact this
theorem Tail.dot {C : Array Value} {l : Bs} (h : Tail C l) {B : Nat} (hB : B + 1 + l.length = 18) : Tail (C.setIfInBounds B (.int .u8 46)) (46 :: l) := by
  have := h.push (by omega) 46
  rw [show 18 - l.length - 1 = B by omega] at this
  exact this
theorem wrote_zero (m d : Nat) : wrote m d 0 = [] := by unfold wrote; simp [low]
theorem wrote_lt {m d p : Nat} (h : p < d) : wrote m d (p + 1) = dig (m / 10 ^ p) :: wrote m d p := by
  unfold wrote; rw [if_pos (by omega), if_pos (by omega), low_succ]
theorem wrote_at {m d : Nat} (h : 0 < d) : wrote m d (d + 1) = dig (m / 10 ^ d) :: 46 :: wrote m d d := by
  unfold wrote FixMath.part; rw [if_neg (by omega), if_pos (Nat.le_refl _), if_neg (by omega), show d + 1 - d = 1 by omega]
  simp [low]
theorem wrote_at0 (m : Nat) : wrote m 0 1 = dig m :: wrote m 0 0 := by
  unfold wrote FixMath.part; simp [low]
theorem wrote_gt {m d p : Nat} (h : d < p) : wrote m d (p + 1) = dig (m / 10 ^ p) :: wrote m d p := by
  unfold wrote; rw [if_neg (by omega), if_neg (by omega), show p + 1 - d = p - d + 1 by omega, low_succ, Nat.div_div_eq_div_mul, ← Nat.pow_add, show d + (p - d) = p by omega]
  rfl
theorem wrote_all (m d : Nat) : wrote m d (d + nd (m / 10 ^ d)) = natText m d := by
  have := nd_pos (m / 10 ^ d)
  unfold wrote; rw [if_neg (by omega), natText_part, show d + nd (m / 10 ^ d) - d = nd (m / 10 ^ d) by omega]
theorem rest_zero {m d p : Nat} (hp : d < p) : m / 10 ^ p = 0 ↔ d + nd (m / 10 ^ d) ≤ p := by
  have e : m / 10 ^ p = m / 10 ^ d / 10 ^ (p - d) := by rw [Nat.div_div_eq_div_mul, ← Nat.pow_add, show d + (p - d) = p by omega]
  rw [e, nd_iff _ _ (by omega)]; omega

set_option maxHeartbeats 1000000 in
theorem text_pos (m : Nat) (d : Nat) (w : World) (h : countsB (m : Int) d = true) :
    Calls Tryd.prog 91 #[.int .i64 (m : Int), .int .u8 d] w fun e w' => e = .returned (textV m d) ∧ Below w.heap.size w w' := by
  obtain ⟨n1, n2, hd⟩ := countsB_out h
  have hm : m ≤ 1000000000000000 := by omega
  have HV := Lib.hid (textV_t h (s := natText m d) (by unfold fixText; rw [if_neg (by omega)]; simp))
  have HL := Lib.hid (fun p hp => wrote_len m d p hm hd hp)
  have HK : Hid (nd (m / 10 ^ d) ≤ 16) := Lib.hid (nd_le (by omega) (by have := Nat.div_le_self m (10 ^ d); omega))
  go_enter Tryd.func91, Tryd.ntmps91
  go_wp2
  go_step3
  go_wp2_with ((go_at_call 102; (refine (counts_any _ _ _).mono ?_; rintro e w' ⟨rfl, rfl⟩)))
  go_step3
  go_wp2
  go_loopw [6, 8, 9] (fun r a pl wr => ∃ (p q A : Nat) (l : Bs) (C : Array Value), r = .int .i64 q ∧ a = .int .i64 A ∧ pl = .int .u8 p ∧ wr = w.alloc (.cells C 132) ∧ Hid (q = m / 10 ^ p) ∧ Hid (A + l.length = 18) ∧ Hid (l = wrote m d p) ∧ Hid (Tail C l) ∧ Hid (p ≤ d + nd (m / 10 ^ d))) (fun _ _ pl _ => (30 - intOf pl).toNat)
  case atStart => exact ⟨0, m, 18, [], _, rfl, rfl, rfl, rfl, Lib.hid (by simp), Lib.hid rfl, Lib.hid (wrote_zero m d).symm, Lib.hid ⟨rfl, by simp, fun j hj => by simp at hj⟩, Lib.hid (Nat.zero_le _)⟩
  case round =>
    obtain ⟨p, q, A, l, C, rfl, rfl, rfl, rfl, HQ, HA, HW, HT, HP⟩ := hrel
    have hq : q ≤ 1000000000000000 := by have := HQ.out; have := Nat.div_le_self m (10 ^ p); omega
    have hsz : C.size = 18 := HT.out.1
    have hp22 : p ≤ 22 := by have := HP.out; have := HK.out; omega
    by_cases hdone : p = d + nd (m / 10 ^ d)
    · have hdp : d < p := by have := nd_pos (m / 10 ^ d); omega
      have hq0 : q = 0 := by rw [HQ.out]; exact (rest_zero hdp).2 (by omega)
      have HE : Hid (l = natText m d) := Lib.hid (by rw [HW.out, hdone, wrote_all])
      have hA18 : A < 18 := by
        have := HA.out
        have := natText_head m d
        obtain ⟨c, t, e, _⟩ := this
        have h3 := congrArg List.length (HE.out.trans e)
        simp only [List.length_cons] at h3
        omega
      have hsl := slice_tail A hA18 w.heap.size (w.alloc (.cells C 132))
      have hconv := conv_tail HT.out A HA.out w
      clear hdone
      subst hq0
      go_wp2
      rw [Exit.noGoto_ret]
      go_ret2
      exact ⟨by rw [HV.out, ← HE.out]; rfl, (Below.refl _ _).alloc (Nat.le_refl _) _⟩
    · have hlt : p < d + nd (m / 10 ^ d) := by have := HP.out; omega
      have hlen := HL.out (p + 1) (by omega)
      have HQ' : Hid (q / 10 = m / 10 ^ (p + 1)) := Lib.hid (by rw [HQ.out, div_pow_succ])
      have HP' : Hid (p + 1 ≤ d + nd (m / 10 ^ d)) := Lib.hid (by omega)
      by_cases h1 : p = d
      · by_cases h2 : d = 0
        · subst h1
          subst h2
          have HW' : Hid (dig q :: l = wrote m 0 (0 + 1)) := Lib.hid (by rw [HW.out, HQ.out, wrote_at0]; simp)
          rw [← HW'.out] at hlen
          simp only [List.length_cons] at hlen
          obtain ⟨B, rfl⟩ : ∃ B, A = B + 1 := ⟨A - 1, by have := HA.out; omega⟩
          have HT' := Lib.hid (HT.out.digit HA.out q)
          have hB : B < 18 := by have := HA.out; omega
          have HA' : Hid (B + (dig q :: l).length = 18) := Lib.hid (by have := HA.out; simp only [List.length_cons]; omega)
          clear hlen hlt
          go_wp2
          go_roundw
          case rel => exact ⟨0 + 1, q / 10, B, dig q :: l, _, by go_num, by go_num, by go_num, rfl, HQ', HA', HW', HT', HP'⟩
          case measure => simp [intOf]
        · subst h1
          have h2' : 0 < p := by omega
          have HW' : Hid (dig q :: 46 :: l = wrote m p (p + 1)) := Lib.hid (by rw [HW.out, HQ.out, wrote_at h2'])
          rw [← HW'.out] at hlen
          simp only [List.length_cons] at hlen
          obtain ⟨B, rfl⟩ : ∃ B, A = B + 2 := ⟨A - 2, by have := HA.out; omega⟩
          have HT' := Lib.hid ((HT.out.dot (B := B + 1) HA.out).digit (B := B) (by have := HA.out; simp only [List.length_cons]; omega) q)
          have hB : B + 1 < 18 := by have := HA.out; omega
          have hB2 : B < 18 := by omega
          have HA' : Hid (B + (dig q :: 46 :: l).length = 18) := Lib.hid (by have := HA.out; simp only [List.length_cons]; omega)
          clear hlen hlt h2
          go_wp2
          go_roundw
          case rel => exact ⟨p + 1, q / 10, B, dig q :: 46 :: l, _, by go_num, by go_num, by go_num, rfl, HQ', HA', HW', HT', HP'⟩
          case measure => simp [intOf]; omega
      · have HW' : Hid (dig q :: l = wrote m d (p + 1)) := Lib.hid (by
          rw [HW.out, HQ.out]
          by_cases h2 : p < d
          · rw [wrote_lt h2]
          · rw [wrote_gt (by omega)])
        rw [← HW'.out] at hlen
        simp only [List.length_cons] at hlen
        obtain ⟨B, rfl⟩ : ∃ B, A = B + 1 := ⟨A - 1, by have := HA.out; omega⟩
        have HT' := Lib.hid (HT.out.digit HA.out q)
        have hB : B < 18 := by have := HA.out; omega
        have HA' : Hid (B + (dig q :: l).length = 18) := Lib.hid (by have := HA.out; simp only [List.length_cons]; omega)
        by_cases h2 : d < p
        · have hq0 : ¬ q = 0 := by
            rw [HQ.out]
            intro e
            have := (rest_zero h2).1 e
            omega
          clear hlen hlt
          go_wp2
          go_roundw
          case rel => exact ⟨p + 1, q / 10, B, dig q :: l, _, by go_num, by go_num, by go_num, rfl, HQ', HA', HW', HT', HP'⟩
          case measure => simp [intOf]; omega
        · clear hlen hlt
          go_wp2
          go_roundw
          case rel => exact ⟨p + 1, q / 10, B, dig q :: l, _, by go_num, by go_num, by go_num, rfl, HQ', HA', HW', HT', HP'⟩
          case measure => simp [intOf]; omega
set_option maxHeartbeats 1000000 in
theorem text_neg (m : Nat) (d : Nat) (w : World) (hpos : 0 < m) (h : countsB (-(m : Int)) d = true) :
    Calls Tryd.prog 91 #[.int .i64 (-(m : Int)), .int .u8 d] w fun e w' => e = .returned (textV (-(m : Int)) d) ∧ Below w.heap.size w w' := by
  obtain ⟨n1, n2, hd⟩ := countsB_out h
  have hm : m ≤ 1000000000000000 := by omega
  have HV := Lib.hid (textV_t h (s := 45 :: natText m d) (by unfold fixText; rw [if_pos (by omega)]; simp))
  have HL := Lib.hid (fun p hp => wrote_len m d p hm hd hp)
  have HK : Hid (nd (m / 10 ^ d) ≤ 16) := Lib.hid (nd_le (by omega) (by have := Nat.div_le_self m (10 ^ d); omega))
  go_enter Tryd.func91, Tryd.ntmps91
  go_wp2
  go_step3
  go_wp2_with ((go_at_call 102; (refine (counts_any _ _ _).mono ?_; rintro e w' ⟨rfl, rfl⟩)))
  go_step3
  go_wp2
  go_loopw [6, 8, 9] (fun r a pl wr => ∃ (p q A : Nat) (l : Bs) (C : Array Value), r = .int .i64 q ∧ a = .int .i64 A ∧ pl = .int .u8 p ∧ wr = w.alloc (.cells C 132) ∧ Hid (q = m / 10 ^ p) ∧ Hid (A + l.length = 18) ∧ Hid (l = wrote m d p) ∧ Hid (Tail C l) ∧ Hid (p ≤ d + nd (m / 10 ^ d))) (fun _ _ pl _ => (30 - intOf pl).toNat)
  case atStart => exact ⟨0, m, 18, [], _, rfl, rfl, rfl, rfl, Lib.hid (by simp), Lib.hid rfl, Lib.hid (wrote_zero m d).symm, Lib.hid ⟨rfl, by simp, fun j hj => by simp at hj⟩, Lib.hid (Nat.zero_le _)⟩
  case round =>
    obtain ⟨p, q, A, l, C, rfl, rfl, rfl, rfl, HQ, HA, HW, HT, HP⟩ := hrel
    have hq : q ≤ 1000000000000000 := by have := HQ.out; have := Nat.div_le_self m (10 ^ p); omega
    have hsz : C.size = 18 := HT.out.1
    have hp22 : p ≤ 22 := by have := HP.out; have := HK.out; omega
    by_cases hdone : p = d + nd (m / 10 ^ d)
    · have hdp : d < p := by have := nd_pos (m / 10 ^ d); omega
      have hq0 : q = 0 := by rw [HQ.out]; exact (rest_zero hdp).2 (by omega)
      have HE : Hid (l = natText m d) := Lib.hid (by rw [HW.out, hdone, wrote_all])
      have hl17 : l.length ≤ 17 := by have := HL.out p (by omega); rw [← HW.out] at this; exact this
      obtain ⟨B, rfl⟩ : ∃ B, A = B + 1 := ⟨A - 1, by have := HA.out; omega⟩
      have hB : B < 18 := by have := HA.out; omega
      have HT' : Tail (C.setIfInBounds B (.int .u8 45)) (45 :: l) := by
        have := HT.out.push (by omega) 45
        rw [show 18 - l.length - 1 = B by have := HA.out; omega] at this
        exact this
      have hsl := slice_tail B hB w.heap.size (w.alloc (.cells (C.setIfInBounds B (.int .u8 45)) 132))
      have hconv := conv_tail HT' B (by have := HA.out; simp only [List.length_cons]; omega) w
      clear hdone
      subst hq0
      go_wp2
      rw [Exit.noGoto_ret]
      go_ret2
      exact ⟨by rw [HV.out, ← HE.out]; rfl, (Below.refl _ _).alloc (Nat.le_refl _) _⟩
    · have hlt : p < d + nd (m / 10 ^ d) := by have := HP.out; omega
      have hlen := HL.out (p + 1) (by omega)
      have HQ' : Hid (q / 10 = m / 10 ^ (p + 1)) := Lib.hid (by rw [HQ.out, div_pow_succ])
      have HP' : Hid (p + 1 ≤ d + nd (m / 10 ^ d)) := Lib.hid (by omega)
      by_cases h1 : p = d
      · by_cases h2 : d = 0
        · subst h1
          subst h2
          have HW' : Hid (dig q :: l = wrote m 0 (0 + 1)) := Lib.hid (by rw [HW.out, HQ.out, wrote_at0]; simp)
          rw [← HW'.out] at hlen
          simp only [List.length_cons] at hlen
          obtain ⟨B, rfl⟩ : ∃ B, A = B + 1 := ⟨A - 1, by have := HA.out; omega⟩
          have HT' := Lib.hid (HT.out.digit HA.out q)
          have hB : B < 18 := by have := HA.out; omega
          have HA' : Hid (B + (dig q :: l).length = 18) := Lib.hid (by have := HA.out; simp only [List.length_cons]; omega)
          clear hlen hlt
          go_wp2
          go_roundw
          case rel => exact ⟨0 + 1, q / 10, B, dig q :: l, _, by go_num, by go_num, by go_num, rfl, HQ', HA', HW', HT', HP'⟩
          case measure => simp [intOf]
        · subst h1
          have h2' : 0 < p := by omega
          have HW' : Hid (dig q :: 46 :: l = wrote m p (p + 1)) := Lib.hid (by rw [HW.out, HQ.out, wrote_at h2'])
          rw [← HW'.out] at hlen
          simp only [List.length_cons] at hlen
          obtain ⟨B, rfl⟩ : ∃ B, A = B + 2 := ⟨A - 2, by have := HA.out; omega⟩
          have HT' := Lib.hid ((HT.out.dot (B := B + 1) HA.out).digit (B := B) (by have := HA.out; simp only [List.length_cons]; omega) q)
          have hB : B + 1 < 18 := by have := HA.out; omega
          have hB2 : B < 18 := by omega
          have HA' : Hid (B + (dig q :: 46 :: l).length = 18) := Lib.hid (by have := HA.out; simp only [List.length_cons]; omega)
          clear hlen hlt h2
          go_wp2
          go_roundw
          case rel => exact ⟨p + 1, q / 10, B, dig q :: 46 :: l, _, by go_num, by go_num, by go_num, rfl, HQ', HA', HW', HT', HP'⟩
          case measure => simp [intOf]; omega
      · have HW' : Hid (dig q :: l = wrote m d (p + 1)) := Lib.hid (by
          rw [HW.out, HQ.out]
          by_cases h2 : p < d
          · rw [wrote_lt h2]
          · rw [wrote_gt (by omega)])
        rw [← HW'.out] at hlen
        simp only [List.length_cons] at hlen
        obtain ⟨B, rfl⟩ : ∃ B, A = B + 1 := ⟨A - 1, by have := HA.out; omega⟩
        have HT' := Lib.hid (HT.out.digit HA.out q)
        have hB : B < 18 := by have := HA.out; omega
        have HA' : Hid (B + (dig q :: l).length = 18) := Lib.hid (by have := HA.out; simp only [List.length_cons]; omega)
        by_cases h2 : d < p
        · have hq0 : ¬ q = 0 := by
            rw [HQ.out]
            intro e
            have := (rest_zero h2).1 e
            omega
          clear hlen hlt
          go_wp2
          go_roundw
          case rel => exact ⟨p + 1, q / 10, B, dig q :: l, _, by go_num, by go_num, by go_num, rfl, HQ', HA', HW', HT', HP'⟩
          case measure => simp [intOf]; omega
        · clear hlen hlt
          go_wp2
          go_roundw
          case rel => exact ⟨p + 1, q / 10, B, dig q :: l, _, by go_num, by go_num, by go_num, rfl, HQ', HA', HW', HT', HP'⟩
          case measure => simp [intOf]; omega
theorem text_any (n : Int) (d : Nat) (w : World) :
    Calls Tryd.prog 91 #[.int .i64 n, .int .u8 d] w fun e w' => e = .returned (textV n d) ∧ Below w.heap.size w w' := by
  by_cases h : countsB n d = true
  · by_cases hn : n < 0
    · have e : n = -((n.natAbs : Nat) : Int) := by omega
      rw [e] at h ⊢
      exact text_neg _ d w (by omega) h
    · have e : n = ((n.natAbs : Nat) : Int) := by omega
      rw [e] at h ⊢
      exact text_pos _ d w h
  · have HV := Lib.hid (textV_f h)
    have h : countsB n d = false := by simpa using h
    go_enter Tryd.func91, Tryd.ntmps91
    go_wp2
    go_step3
    go_wp2_with ((go_at_call 102; (refine (counts_any _ _ _).mono ?_; rintro e w' ⟨rfl, rfl⟩)))
    rw [Exit.noGoto_ret]
    go_ret2
    exact ⟨by rw [HV.out]; rfl, Below.refl _ _⟩
end Go.Proofs.YtonhijonnonmbaaDoor
