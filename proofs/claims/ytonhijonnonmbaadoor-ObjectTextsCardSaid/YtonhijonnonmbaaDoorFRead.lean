/-
  WALKS: read and Parse (the program's).
-/
import Derived.Test.YtonhijonnonmbaaDoorFText
namespace Go.Proofs.YtonhijonnonmbaaDoor
open Go.RowKit FixMath
set_option maxRecDepth 100000
set_option linter.unusedVariables false
set_option linter.unusedSimpArgs false

theorem empty_f {s : ByteArray} (h : s.size ≠ 0) : s.toList.isEmpty = false := by
  rw [ByteArray.toList_eq, List.isEmpty_eq_false_iff]
  intro e
  have : s.data.toList.length = 0 := by rw [e]; rfl
  exact h (by simpa using this)
theorem take_snoc (s : ByteArray) (k : Nat) (h : k < s.size) : s.data.toList.take (k + 1) = s.data.toList.take k ++ [s[k]] := by
  rw [List.take_succ_eq_append_getElem (by simpa using h)]; rfl
theorem readN_yes {l : Bs} {c : UInt8} (h : isDig c = true) : readN (l ++ [c]) = 10 * readN l + (c.toNat - 48) := by
  unfold readN; rw [List.filter_append, List.filter_cons_of_pos h, List.filter_nil, val_snoc]
theorem readN_no {l : Bs} {c : UInt8} (h : isDig c = false) : readN (l ++ [c]) = readN l := by
  unfold readN; rw [List.filter_append, List.filter_cons_of_neg (by rw [h]; simp), List.filter_nil, List.append_nil]
theorem readN_lt (l : Bs) : readN l < 10 ^ l.length := by
  have h1 : val (l.filter isDig) < 10 ^ (l.filter isDig).length := val_lt _ fun c hc => (List.mem_filter.1 hc).2
  have h2 : (l.filter isDig).length ≤ l.length := List.length_filter_le _ _
  have h3 : 10 ^ (l.filter isDig).length ≤ 10 ^ l.length := Nat.pow_le_pow_right (by omega) h2
  unfold readN; omega
theorem readN_18 (l : Bs) (h : l.length ≤ 18) : readN l < 1000000000000000000 := by
  have h1 := readN_lt l
  have h2 : 10 ^ l.length ≤ 10 ^ 18 := Nat.pow_le_pow_right (by omega) h
  have : (10 : Nat) ^ 18 = 1000000000000000000 := by decide
  omega
theorem readN_17 (l : Bs) (h : l.length ≤ 17) : readN l < 100000000000000000 := by
  have h1 := readN_lt l
  have h2 : 10 ^ l.length ≤ 10 ^ 17 := Nat.pow_le_pow_right (by omega) h
  have : (10 : Nat) ^ 17 = 100000000000000000 := by decide
  omega

set_option maxHeartbeats 1000000 in
theorem read_any (s : ByteArray) (w : World) (hs : s.size ≤ 18) :
    Calls Tryd.prog 90 #[.string s] w fun e w' => e = .returned (.int .i64 (readZ s.data.toList)) ∧ w = w' := by
  go_enter Tryd.func90, Tryd.ntmps90
  go_wp2
  go_loop [3, 4, 7] (fun n _ i => ∃ (k v : Nat), k ≤ s.size ∧ i = .int .i64 k ∧ n = .int .i64 v ∧ Hid (v = readN (s.data.toList.take k)) ∧ v < 1000000000000000000) (fun _ _ i => s.size - (intOf i).toNat)
  case atStart => exact ⟨0, 0, Nat.zero_le _, rfl, rfl, Lib.hid rfl, by omega⟩
  case round =>
    obtain ⟨k, v, hk, rfl, rfl, HV, hv⟩ := hrel
    by_cases hlt : k < s.size
    · have HT := Lib.hid (take_snoc s k hlt)
      have hv17 : v < 100000000000000000 := by rw [HV.out]; exact readN_17 _ (by simp; omega)
      have hc := s[k].toNat_lt
      by_cases hd : isDig s[k] = true
      · have hd2 := hd
        simp only [isDig, decide_eq_true_eq] at hd2
        obtain ⟨c1, c2⟩ := hd2
        have HN : Hid (10 * v + (s[k].toNat - 48) = readN (s.data.toList.take (k + 1))) := Lib.hid (by rw [HT.out, readN_yes hd, HV.out])
        clear hd
        go_wp2
        go_round
        case rel => exact ⟨k + 1, _, by omega, by go_num, by go_num, HN, by omega⟩
        case measure => simp [intOf]; omega
      · have hd : isDig s[k] = false := by simpa using hd
        have HN : Hid (v = readN (s.data.toList.take (k + 1))) := Lib.hid (by rw [HT.out, readN_no hd, HV.out])
        have hd2 : s[k].toNat < 48 ∨ (48 ≤ s[k].toNat ∧ 57 < s[k].toNat) := by
          simp only [isDig, decide_eq_false_iff_not] at hd
          omega
        clear hd
        rcases hd2 with c1 | ⟨c1, c2⟩
        all_goals
          go_wp2
          go_round
          case rel => exact ⟨k + 1, _, by omega, by go_num, by go_num, HN, by omega⟩
          case measure => simp [intOf]; omega
    · have HN : Hid (v = readN s.data.toList) := Lib.hid (by rw [HV.out, List.take_of_length_le (by simp; omega)])
      by_cases h0 : s.size = 0
      · have es : s = ⟨#[]⟩ := by
          apply ByteArray.ext
          exact Array.eq_empty_of_size_eq_zero h0
        subst es
        have HZ : Hid (readZ (⟨#[]⟩ : ByteArray).data.toList = v) := Lib.hid (by unfold readZ; rw [if_neg (by simp), HN.out])
        clear h0
        go_wp2
        go_ret
        exact ⟨by rw [HZ.out]; rfl, rfl⟩
      · have hpos : 0 < s.size := by omega
        have he := empty_f h0
        have hhead : s.data.toList.head? = some (s[0]'hpos) := by
          rw [List.head?_eq_getElem?, List.getElem?_eq_getElem (by simpa using hpos)]; rfl
        by_cases h45 : s[0]'hpos = 45
        · have HZ : Hid (readZ s.data.toList = -(v : Int)) := Lib.hid (by unfold readZ; rw [hhead, h45, if_pos rfl, HN.out])
          have hb : (((s[0]'hpos).toNat : Int) == 45) = true := by rw [h45]; rfl
          clear hhead h0
          go_wp2
          go_ret
          exact ⟨by rw [HZ.out]; rfl, rfl⟩
        · have HZ : Hid (readZ s.data.toList = v) := Lib.hid (by unfold readZ; rw [hhead, if_neg (by simpa using h45), HN.out])
          have hb : (((s[0]'hpos).toNat : Int) == 45) = false := by
            have : (s[0]'hpos).toNat ≠ 45 := fun e => h45 (UInt8.toNat_inj.1 (e.trans rfl))
            simp; omega
          clear hhead h0
          go_wp2
          go_ret
          exact ⟨by rw [HZ.out]; rfl, rfl⟩
end Go.Proofs.YtonhijonnonmbaaDoor
