/-
  WALK: the document's Text.
-/
import Derived.Test.YtadbbpfnedbhcaaFDigits
namespace Go.Proofs.Ytadbbpfnedbhcaa
open Go.RowKit FixMath
set_option maxRecDepth 100000
set_option linter.unusedVariables false
set_option linter.unusedSimpArgs false

def textV (n : Int) (d : Nat) : Value := if countsB n d = true then .tuple #[str (fixText n d), .int .i64 0] else .tuple #[str [], .int .i64 20]
theorem textV_t {n : Int} {d : Nat} (h : countsB n d = true) {s : Bs} (hs : fixText n d = s) : textV n d = .tuple #[str s, .int .i64 0] := by unfold textV; rw [if_pos h, hs]
theorem textV_f {n : Int} {d : Nat} (h : ¬ countsB n d = true) : textV n d = .tuple #[str [], .int .i64 20] := by unfold textV; rw [if_neg h]
theorem str_eq {a b : Bs} (h : a = b) (e : Int) : Ending.returned (.tuple #[str a, .int .i64 e]) = Ending.returned (.tuple #[str b, .int .i64 e]) := by rw [h]

theorem ret_bytes3 {x : ByteArray} {a b c s : Bs} {e : Int} (h : x = (⟨a.toArray⟩ : ByteArray) ++ ⟨b.toArray⟩ ++ ⟨c.toArray⟩) (hs : s = a ++ b ++ c) : Ending.returned (.tuple #[.string x, .int .i64 e]) = Ending.returned (.tuple #[str s, .int .i64 e]) := by rw [h, bytes_add, bytes_add, hs]
theorem ret_bytes {x : ByteArray} {b : Bs} {e : Int} (h : x = ⟨b.toArray⟩) : Ending.returned (.tuple #[.string x, .int .i64 e]) = Ending.returned (.tuple #[str b, .int .i64 e]) := by rw [h]
/-- What the first call of Digits gives, and the second. -/
theorem digits_whole (m d : Nat) (hm : m ≤ 1000000000000000) (hd : d ≤ 6) (w : World) :
    Calls Try.prog 39 #[.int .i64 (m / 10 ^ d : Nat), .int .i64 1] w fun e w' => e = .returned (str (low (nd (m / 10 ^ d)) (m / 10 ^ d))) ∧ Below w.heap.size w w' := by
  have h1 : m / 10 ^ d ≤ m := Nat.div_le_self _ _
  have h2 : nd (m / 10 ^ d) ≤ 16 := nd_le (by omega) (by omega)
  refine digits_any (m / 10 ^ d) 1 (nd (m / 10 ^ d)) w (by omega) (by omega) h2 (fun k hk => ?_) ((nd_iff _ _ (nd_pos _)).2 (Nat.le_refl _)) (nd_pos _)
  by_cases h0 : k = 0
  · exact .inr (by omega)
  · exact .inl (lt_nd (by omega) hk)
theorem digits_part (m d : Nat) (hm : m ≤ 1000000000000000) (hd : d ≤ 6) (w : World) :
    Calls Try.prog 39 #[.int .i64 (m % 10 ^ d : Nat), .int .i64 d] w fun e w' => e = .returned (str (low d m)) ∧ Below w.heap.size w w' := by
  have h1 : m % 10 ^ d ≤ m := Nat.mod_le _ _
  have h2 := digits_any (m % 10 ^ d) d d w (by omega) hd (by omega) (fun k hk => .inr hk) (Nat.div_eq_of_lt (Nat.mod_lt _ (pow_pos' d))) (Nat.le_refl _)
  rw [low_mod d d m (Nat.le_refl _)] at h2
  exact h2

theorem refText_f (n : Int) (d : Nat) (w : World) (h : ¬ countsB n d = true) :
    Calls Try.prog 33 #[.int .i64 n, .int .u8 d] w fun e w' => e = .returned (textV n d) ∧ w = w' := by
  have HV := Lib.hid (textV_f h)
  have h' : mayB n = false ∨ (mayB n = true ∧ 6 < d) := by
    cases e : mayB n
    · exact .inl rfl
    · exact .inr ⟨rfl, by simp [countsB, e] at h; omega⟩
  clear h
  rcases h' with h1 | ⟨h1, h2⟩
  all_goals
    go_enter Try.func33, Try.ntmps33
    go_wp2_with (go_at_call 30; (refine (refMay_any _ _).mono ?_; rintro e w' ⟨rfl, rfl⟩))
    go_ret2
    exact ⟨by rw [HV.out]; rfl, rfl⟩

theorem refUnit_00 (w : World) : Calls Try.prog 38 #[.int .u8 0] w fun e w' => e = .returned (.int .i64 1) ∧ w = w' := refUnit_any 0 w (by omega)
theorem digits_whole0 (m : Nat) (hm : m ≤ 1000000000000000) (w : World) :
    Calls Try.prog 39 #[.int .i64 m, .int .i64 1] w fun e w' => e = .returned (str (low (nd m) m)) ∧ Below w.heap.size w w' := by
  have h := digits_whole m 0 hm (by omega) w
  rw [Nat.pow_zero, Nat.div_one] at h
  exact h
theorem refText_0 (n : Int) (w : World) (h : countsB n 0 = true) :
    Calls Try.prog 33 #[.int .i64 n, .int .u8 0] w fun e w' => e = .returned (textV n 0) ∧ Below w.heap.size w w' := by
  obtain ⟨n1, n2, hd⟩ := countsB_out h
  have m1 : mayB n = true := by simp [mayB]; omega
  obtain ⟨m, hm⟩ : ∃ m : Nat, m = n.natAbs := ⟨_, rfl⟩
  have hm15 : m ≤ 1000000000000000 := by omega
  have CW := fun W => Lib.hid (digits_whole0 m hm15 W)
  have hlen : (low (nd m) m).length ≤ 16 := by rw [low_length]; exact nd_le (by omega) (by omega)
  have HT : Hid (fixText n 0 = (if n < 0 then [45] else []) ++ low (nd m) m) := Lib.hid (by unfold fixText natText; rw [hm]; simp)
  have HH := Lib.hid h
  generalize low (nd m) m = L1 at *
  clear h hd
  by_cases hneg : n < 0
  · have en : n = -(m : Int) := by omega
    have mpos : 0 < m := by omega
    have HV := Lib.hid (textV_t HH.out (s := [45] ++ L1) (by rw [HT.out, if_pos hneg]))
    clear hm hneg
    subst en
    go_enter Try.func33, Try.ntmps33
    go_wp2_with (first | (go_at_call 30; (refine (refMay_any _ _).mono ?_; rintro e w' ⟨rfl, rfl⟩)) | (go_at_call 38; (refine (refUnit_00 _).mono ?_; rintro e w' ⟨rfl, rfl⟩)) | (go_at_call 39; ((with_reducible refine (CW _).out.mono ?_); rintro e w1 ⟨rfl, hb1⟩)))
    go_ret2
    exact ⟨by rw [HV.out]; exact ret_bytes (bytes_add [45] L1), hb1⟩
  · have en : n = (m : Int) := by omega
    have HV := Lib.hid (textV_t HH.out (s := L1) (by rw [HT.out, if_neg hneg]; rfl))
    clear hm hneg
    subst en
    go_enter Try.func33, Try.ntmps33
    go_wp2_with (first | (go_at_call 30; (refine (refMay_any _ _).mono ?_; rintro e w' ⟨rfl, rfl⟩)) | (go_at_call 38; (refine (refUnit_00 _).mono ?_; rintro e w' ⟨rfl, rfl⟩)) | (go_at_call 39; ((with_reducible refine (CW _).out.mono ?_); rintro e w1 ⟨rfl, hb1⟩)))
    go_ret2
    exact ⟨by rw [HV.out]; first | rfl | exact ret_bytes (bytes_add [] L1), hb1⟩

theorem refText_t (n : Int) (d : Nat) (w : World) (h : countsB n d = true) (hd0 : ¬ d = 0) :
    Calls Try.prog 33 #[.int .i64 n, .int .u8 d] w fun e w' => e = .returned (textV n d) ∧ Below w.heap.size w w' := by
  obtain ⟨n1, n2, hd⟩ := countsB_out h
  have m1 : mayB n = true := by simp [mayB]; omega
  have hd2 : ¬ 6 < d := by omega
  obtain ⟨m, hm⟩ : ∃ m : Nat, m = n.natAbs := ⟨_, rfl⟩
  have hm15 : m ≤ 1000000000000000 := by omega
  have hp := unitN_pos hd
  have hu0 : ¬ unitN d = 0 := by omega
  have hun : unitN d = 10 ^ d := by unfold unitN; rw [if_pos hd]
  obtain ⟨a, ha⟩ : ∃ a : Nat, a = m / 10 ^ d := ⟨_, rfl⟩
  obtain ⟨b, hb⟩ : ∃ b : Nat, b = m % 10 ^ d := ⟨_, rfl⟩
  have E1 : (m : Int) / (unitN d : Int) = (a : Int) := by rw [ha, hun]; simp
  have E2 : (m : Int) % (unitN d : Int) = (b : Int) := by rw [hb, hun]; simp
  have a15 : a ≤ 1000000000000000 := by have := Nat.div_le_self m (10 ^ d); omega
  have b15 : b ≤ 1000000000000000 := by have := Nat.mod_le m (10 ^ d); omega
  have CW := fun W => Lib.hid (digits_whole m d hm15 hd W)
  have CP := fun W => Lib.hid (digits_part m d hm15 hd W)
  have hlen : (low (nd (m / 10 ^ d)) (m / 10 ^ d)).length ≤ 16 := by
    rw [low_length]; exact nd_le (by omega) (by have := Nat.div_le_self m (10 ^ d); omega)
  have hlen2 : (low d m).length ≤ 6 := by rw [low_length]; omega
  have HT : Hid (fixText n d = (if n < 0 then [45] else []) ++ (low (nd (m / 10 ^ d)) (m / 10 ^ d) ++ (if d = 0 then [] else 46 :: low d m))) := Lib.hid (by unfold fixText natText; rw [hm])
  have HH := Lib.hid h
  rw [← ha] at CW hlen HT
  rw [← hb] at CP
  generalize low (nd a) a = L1 at *
  generalize low d m = L2 at *
  clear ha hb hun h
  by_cases hneg : n < 0
  · have en : n = -(m : Int) := by omega
    have mpos : 0 < m := by omega
    clear hm
    subst en
    · have HV := Lib.hid (textV_t HH.out (s := ([45] ++ L1) ++ [46] ++ L2) (by rw [HT.out, if_pos hneg, if_neg hd0]; simp))
      have hd0' : 0 < d := by omega
      clear hd0 hneg
      go_enter Try.func33, Try.ntmps33
      go_wp2_with (first | (go_at_call 30; (refine (refMay_any _ _).mono ?_; rintro e w' ⟨rfl, rfl⟩)) | (go_at_call 38; (refine (refUnit_any _ _ (by omega)).mono ?_; rintro e w' ⟨rfl, rfl⟩)) | (go_at_call 39; (first | ((with_reducible refine (CW _).out.mono ?_); rintro e w1 ⟨rfl, hb1⟩) | ((with_reducible refine (CP _).out.mono ?_); rintro e w2 ⟨rfl, hb2⟩))))
      go_ret2
      exact ⟨by rw [HV.out]; exact ret_bytes (by show ((⟨([45] : Bs).toArray⟩ : ByteArray) ++ ⟨L1.toArray⟩) ++ ⟨([46] : Bs).toArray⟩ ++ ⟨L2.toArray⟩ = _; rw [bytes_add, bytes_add, bytes_add]), hb1.trans (hb2.mono hb1.size)⟩
  · have en : n = (m : Int) := by omega
    clear hm
    subst en
    · have HV := Lib.hid (textV_t HH.out (s := L1 ++ [46] ++ L2) (by rw [HT.out, if_neg hneg, if_neg hd0]; simp))
      have hd0' : 0 < d := by omega
      clear hd0 hneg
      go_enter Try.func33, Try.ntmps33
      go_wp2_with (first | (go_at_call 30; (refine (refMay_any _ _).mono ?_; rintro e w' ⟨rfl, rfl⟩)) | (go_at_call 38; (refine (refUnit_any _ _ (by omega)).mono ?_; rintro e w' ⟨rfl, rfl⟩)) | (go_at_call 39; (first | ((with_reducible refine (CW _).out.mono ?_); rintro e w1 ⟨rfl, hb1⟩) | ((with_reducible refine (CP _).out.mono ?_); rintro e w2 ⟨rfl, hb2⟩))))
      go_ret2
      exact ⟨by rw [HV.out]; exact ret_bytes (by first | (show (⟨L1.toArray⟩ : ByteArray) ++ ⟨([46] : Bs).toArray⟩ ++ ⟨L2.toArray⟩ = _; rw [bytes_add, bytes_add]) | (show ((⟨([] : Bs).toArray⟩ : ByteArray) ++ ⟨L1.toArray⟩) ++ ⟨([46] : Bs).toArray⟩ ++ ⟨L2.toArray⟩ = _; rw [bytes_add, bytes_add, bytes_add]; rfl)), hb1.trans (hb2.mono hb1.size)⟩
theorem refText_any (n : Int) (d : Nat) (w : World) :
    Calls Try.prog 33 #[.int .i64 n, .int .u8 d] w fun e w' => e = .returned (textV n d) ∧ Below w.heap.size w w' := by
  by_cases h : countsB n d = true
  · by_cases h0 : d = 0
    · subst h0; exact refText_0 n w h
    · exact refText_t n d w h h0
  · exact (refText_f n d w h).mono fun _ _ k => ⟨k.1, by rw [← k.2]; exact Below.refl _ _⟩
end Go.Proofs.Ytadbbpfnedbhcaa
