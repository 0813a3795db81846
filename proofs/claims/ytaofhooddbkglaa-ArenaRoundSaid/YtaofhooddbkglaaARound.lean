/-
  WALK: the law ArenaRound.
-/
import Derived.Test.YtaofhooddbkglaaAAges
namespace Go.Proofs.Ytaofhooddbkglaa
open Go.RowKit
set_option maxRecDepth 100000
set_option linter.unusedVariables false
set_option linter.unusedSimpArgs false

def tkF (n k : Nat) : List Bool := (List.range n).map fun i => decide (i < k)
def agF (n m t k : Nat) : List Nat := (List.range n).map fun i => if i < k then t else if i < m then t - 1 else 0
def stF (n m t k : Nat) : Ar := ⟨tkF n k, agF n m t k⟩
def stG (n m t k : Nat) : Ar := ⟨tkF n k, agF n m t m⟩
theorem tkF_len (n k : Nat) : (tkF n k).length = n := by simp [tkF]
theorem agF_len (n m t k : Nat) : (agF n m t k).length = n := by simp [agF]
theorem tkF_get (n k i : Nat) : (tkF n k).getD i false = (decide (i < n) && decide (i < k)) := by
  simp only [tkF, List.getD_eq_getElem?_getD, List.getElem?_map]
  by_cases h : i < n <;> simp [h]
theorem agF_get (n m t k i : Nat) : (agF n m t k).getD i 0 = if i < n then (if i < k then t else if i < m then t - 1 else 0) else 0 := by
  simp only [agF, List.getD_eq_getElem?_getD, List.getElem?_map]
  by_cases h : i < n <;> simp [h]
theorem ext_b {a b : List Bool} (hl : a.length = b.length) (h : ∀ i, a.getD i false = b.getD i false) : a = b := by
  apply List.ext_getElem hl
  intro i h1 h2
  have := h i
  rw [List.getD_eq_getElem?_getD, List.getD_eq_getElem?_getD, List.getElem?_eq_getElem h1, List.getElem?_eq_getElem h2] at this
  simpa using this
theorem ext_n {a b : List Nat} (hl : a.length = b.length) (h : ∀ i, a.getD i 0 = b.getD i 0) : a = b := by
  apply List.ext_getElem hl
  intro i h1 h2
  have := h i
  rw [List.getD_eq_getElem?_getD, List.getD_eq_getElem?_getD, List.getElem?_eq_getElem h1, List.getElem?_eq_getElem h2] at this
  simpa using this
theorem stF_ok {n m t k : Nat} (h1 : 1 ≤ n) (h2 : n ≤ 64) : ArOk (stF n m t k) := ⟨by simp [stF, tkF_len]; exact h1, by simp [stF, tkF_len]; exact h2, by simp [stF, tkF_len, agF_len]⟩
theorem stG_ok {n m t k : Nat} (h1 : 1 ≤ n) (h2 : n ≤ 64) : ArOk (stG n m t k) := ⟨by simp [stG, tkF_len]; exact h1, by simp [stG, tkF_len]; exact h2, by simp [stG, tkF_len, agF_len]⟩
theorem stF_ag (n m t k i : Nat) : (stF n m t k).ag.getD i 0 ≤ t := by
  simp only [stF, agF_get]; split <;> (try split) <;> (try split) <;> omega
theorem freeF {n k : Nat} (h : k < n) : freeIx (tkF n k) = k := by
  refine free_at (by rw [tkF_len]; exact h) (fun i hi => ?_) ?_
  · rw [tkF_get]; simp; omega
  · rw [tkF_get]; simp
theorem stF_take {n m t k : Nat} (hk : k < m) (hm : m ≤ n) (ht : 1 ≤ t) : takeS (stF n m t k) = stF n m t (k + 1) ∧ takeV (stF n m t k) = k ∧ takeE (stF n m t k) = 0 := by
  have hf : freeIx (stF n m t k).tk = k := freeF (by omega)
  have hl : k < (stF n m t k).tk.length := by simp [stF, tkF_len]; omega
  refine ⟨?_, by simp [takeV, hf, hl], by simp [takeE, hf, hl]⟩
  have e : takeS (stF n m t k) = ⟨(tkF n k).set k true, (agF n m t k).set k ((agF n m t k).getD k 0 + 1)⟩ := by
    unfold takeS; rw [hf, if_pos hl]; rfl
  rw [e]
  unfold stF
  congr 1
  · refine ext_b (by simp [tkF_len]) fun i => ?_
    rw [getD_set _ _ _ _ (by rw [tkF_len]; omega), tkF_get, tkF_get]
    by_cases q : k = i
    · subst q; simp; omega
    · rw [if_neg q]
      by_cases a : i < n <;> simp [a]
      by_cases b : i < k <;> simp [b] <;> omega
  · refine ext_n (by simp [agF_len]) fun i => ?_
    rw [getD_setN _ _ _ _ (by rw [agF_len]; omega), agF_get, agF_get, agF_get]
    by_cases q : k = i
    · subst q; simp only [if_pos (show k < n by omega), if_pos hk, Nat.lt_irrefl, if_false, if_true, Nat.lt_succ_self]; omega
    · rw [if_neg q]
      by_cases a : i < n
      · simp only [a, if_true]
        by_cases b : i < k
        · rw [if_pos b, if_pos (by omega)]
        · rw [if_neg b, if_neg (show ¬ i < k + 1 by omega)]
      · simp only [a, if_false]
theorem stG_give {n m t k : Nat} (hk : k < m) (hm : m ≤ n) : giveS (stG n m t (k + 1)) k = stG n m t k ∧ giveE (stG n m t (k + 1)) k = 0 := by
  have hl : k < (stG n m t (k + 1)).tk.length := by simp [stG, tkF_len]; omega
  have ht : takenB (stG n m t (k + 1)) k = true := by
    rw [taken_nat _ hl]
    show (tkF n (k + 1)).getD k false = true
    rw [tkF_get]; simp; omega
  refine ⟨?_, by simp [giveE, ht]⟩
  have e : giveS (stG n m t (k + 1)) k = ⟨(tkF n (k + 1)).set k false, agF n m t m⟩ := by
    unfold giveS; rw [if_pos ht]; rfl
  rw [e]
  unfold stG
  congr 1
  refine ext_b (by simp [tkF_len]) fun i => ?_
  rw [getD_set _ _ _ _ (by rw [tkF_len]; omega), tkF_get, tkF_get]
  by_cases q : k = i
  · subst q; simp
  · rw [if_neg q]
    by_cases a : i < n <;> simp [a]
    by_cases b : i < k <;> simp [b] <;> omega
theorem stF_end (n m t : Nat) : stF n m t m = stG n m t m := rfl
theorem stG_end (n m t : Nat) : stG n m t 0 = stF n m (t + 1) 0 := by
  unfold stG stF
  congr 1
  refine ext_n (by simp [agF_len]) fun i => ?_
  rw [agF_get, agF_get]
  by_cases a : i < n
  · simp only [a, if_true, Nat.not_lt_zero, if_false]
    by_cases b : i < m <;> simp [b]
  · simp only [a, if_false]
theorem stF_new (n m : Nat) : newS n = stF n m 1 0 := by
  unfold newS stF
  congr 1
  · refine ext_b (by simp [tkF_len]) fun i => ?_
    rw [tkF_get]; simp [List.getD_eq_getElem?_getD, List.getElem?_replicate]
    split <;> rfl
  · refine ext_n (by simp [agF_len]) fun i => ?_
    rw [agF_get]; simp [List.getD_eq_getElem?_getD, List.getElem?_replicate]
    split <;> rfl
theorem many_none (n m t : Nat) : many (stG n m t 0).tk = 0 := by
  show many (tkF n 0) = 0
  unfold many
  rw [List.countP_eq_zero]
  intro x hx
  simp [tkF] at hx
  obtain ⟨_, rfl⟩ := hx
  simp
theorem age_F {n m t k : Nat} (hk : k < m) (hm : m ≤ n) : ageN (stF n m t (k + 1)) k = t := by
  have : (k : Int) < (stF n m t (k + 1)).tk.length := by simp [stF, tkF_len]; omega
  have e : exB (stF n m t (k + 1)) k = true := by simp [exB, this]
  unfold ageN
  rw [if_pos e]
  show (agF n m t (k + 1)).getD (k : Int).toNat 0 = t
  rw [Int.toNat_natCast, agF_get, if_pos (by omega), if_pos (by omega)]
set_option maxHeartbeats 4000000 in
theorem round_walk (n : Int) (e1 e2 : Nat) (w : World) (l1 : e1 ≤ 255) (l2 : e2 ≤ 255) :
    Calls Try.prog 8 #[.int .i64 n, .int .u8 e1, .int .u8 e2] w fun e w' => e = .returned (.bool true) ∧ Below w.heap.size w w' := by
  have hb : Below w.heap.size w w := Below.refl _ _
  have CA := Lib.hid (awake_then hb)
  by_cases hn : n < 1 ∨ 64 < n
  · rcases hn with hn | hn
    · clear hb
      go_enter Try.func8, Try.ntmps8
      go_wp2_with (go_at_call 27; ((with_reducible refine CA.out.mono ?_); rintro e w1 ⟨rfl, hb⟩))
      go_ret
      exact ⟨rfl, hb⟩
    · have h1 : ¬ n < 1 := by omega
      clear hb
      go_enter Try.func8, Try.ntmps8
      go_wp2_with (go_at_call 27; ((with_reducible refine CA.out.mono ?_); rintro e w1 ⟨rfl, hb⟩))
      go_ret
      exact ⟨rfl, hb⟩
  have h1 : ¬ n < 1 := by omega
  have h64 : ¬ 64 < n := by omega
  obtain ⟨m, rfl⟩ := Int.eq_ofNat_of_zero_le (show 0 ≤ n by omega)
  have m1 : 1 ≤ m := by omega
  have m2 : m ≤ 64 := by omega
  have C1 := Lib.hid (fun W => new_yes m W m1 m2)
  obtain ⟨q, hq⟩ : ∃ q : Nat, (e1 : Int) % ((m : Int) + 1) = q := ⟨e1 % (m + 1), by simp⟩
  have hqm : q ≤ m := by
    have := Int.emod_lt_of_pos (e1 : Int) (show (0 : Int) < (m : Int) + 1 by omega)
    omega
  obtain ⟨T, hT⟩ : ∃ T : Nat, (e2 : Int) % 6 = T := ⟨e2 % 6, by simp⟩
  have hT5 : T ≤ 5 := by omega
  clear hn hb
  go_enter Try.func8, Try.ntmps8
  go_wp2_with (first
    | (go_at_call 27; ((with_reducible refine CA.out.mono ?_); rintro e w1 ⟨rfl, hb⟩; have hz0 := hb.size; have HB := Lib.hid hb; clear hb CA))
    | (go_at_call 9; ((with_reducible refine (C1.out _).mono ?_); rintro e w2 ⟨rfl, a1, k1⟩; have HO : Hid (One w w2 w1.heap.size (stF m q 1 0)) := Lib.hid (by rw [← stF_new]; exact ⟨a1, bThen HB.out k1, newS_ok m1 m2, hz0⟩); clear a1 k1 HB C1)))
  generalize w1.heap.size = B at *
  try simp only [hq]
  go_loopw [10] (fun i wr => ∃ t : Nat, i = .int .i64 t ∧ 1 ≤ t ∧ t ≤ T + 2 ∧ One w wr B (stF m q t 0)) (fun i _ => T + 2 - (intOf i).toNat)
  case atStart => exact ⟨1, rfl, by omega, by omega, HO.out⟩
  case round =>
    obtain ⟨t, rfl, ht1, ht2, ho⟩ := hrel
    have HO2 := Lib.hid ho
    clear ho HO
    by_cases hlt : t ≤ T + 1
    · have i1 : (t : Int) ≤ (T : Int) + 1 := by omega
      go_wp2
      try simp only [hq, hT]
      go_loopw [11] (fun i wr => ∃ k : Nat, i = .int .i64 k ∧ k ≤ q ∧ One w wr B (stF m q t k)) (fun i _ => q - (intOf i).toNat)
      case atStart => exact ⟨0, rfl, by omega, HO2.out⟩
      case round =>
        obtain ⟨k, rfl, hk, ho3⟩ := hrel
        have HO3 := Lib.hid ho3
        clear ho3 HO2
        by_cases hkq : k < q
        · have i2 : (k : Int) < q := by omega
          obtain ⟨x1, x2, x3⟩ := stF_take (n := m) hkq hqm ht1
          have CT := Lib.hid (take_to HO3.out.ok (fun i => Nat.le_trans (stF_ag m q t k i) (by omega)) x2 x3 _ HO3.out.a)
          have X1 := Lib.hid x1
          have AG := Lib.hid (age_F (t := t) hkq hqm)
          clear x1 x2 x3
          go_wp2_with (first
            | (go_at_call 13; ((with_reducible refine CT.out.mono ?_); rintro e w3 ⟨rfl, a3, k3⟩; have HO4 : Hid (One w w3 B (stF m q t (k + 1))) := Lib.hid (by rw [X1.out] at a3; exact HO3.out.next a3 k3 (stF_ok m1 m2)); clear a3 k3))
            | (go_at_call 17; ((with_reducible refine (age_is HO4.out.ok AG.out _ HO4.out.a).mono ?_); rintro e w4 ⟨rfl, rfl⟩)))
          go_roundw
          case rel => first | exact ⟨k + 1, by go_num, by omega, HO4.out⟩ | ((repeat apply Exists.intro); exact ⟨⟨k + 1, by go_num, by omega, HO4.out⟩, rfl⟩)
          case measure => (simp [intOf]) <;> omega
        · have e : k = q := by omega
          subst e
          have HO5 : Hid (One w wr B (stG m k t k)) := Lib.hid HO3.out
          go_wp2
          try simp only [hq, hT]
          go_loopw [14] (fun i wr => ∃ (z : Int) (j : Nat), i = .int .i64 z ∧ z = (j : Int) - 1 ∧ j ≤ k ∧ One w wr B (stG m k t j)) (fun i _ => (intOf i + 1).toNat)
          case atStart => exact ⟨(k : Int) - 1, k, rfl, rfl, Nat.le_refl _, HO5.out⟩
          case round =>
            obtain ⟨z, j, rfl, hz, hj, ho6⟩ := hrel
            have HO6 := Lib.hid ho6
            have HZ := Lib.hid hz
            clear ho6 HO3 HO5 hz
            cases j with
            | zero =>
              have z1 : z < 0 := by have := HZ.out; omega
              have MN := Lib.hid (many_none m k t)
              have HO7 : Hid (One w wr B (stF m k (t + 1) 0)) := Lib.hid (by rw [← stG_end]; exact HO6.out)
              have MA := Lib.hid (many_any B _ HO6.out.ok wr HO6.out.a)
              rw [MN.out] at MA
              go_wp2_with (go_at_call 19; ((with_reducible refine MA.out.mono ?_); rintro e w6 ⟨rfl, rfl⟩))
              go_roundw
              case rel => first | exact ⟨t + 1, by go_num, by omega, by omega, HO7.out⟩ | ((repeat apply Exists.intro); exact ⟨⟨t + 1, by go_num, by omega, by omega, HO7.out⟩, rfl⟩)
              case measure => (simp [intOf]) <;> omega
            | succ j =>
              have hz2 : z = (j : Int) := by have := HZ.out; omega
              subst hz2
              have z1 : ¬ (j : Int) < 0 := by omega
              obtain ⟨y1, y2⟩ := stG_give (n := m) (t := t) (show j < k by omega) hqm
              have CG := Lib.hid (give_to HO6.out.ok y2 _ HO6.out.a)
              have Y1 := Lib.hid y1
              clear y1 y2
              go_wp2_with (go_at_call 11; ((with_reducible refine CG.out.mono ?_); rintro e w3 ⟨rfl, a3, k3⟩; have HO8 : Hid (One w w3 B (stG m k t j)) := Lib.hid (by rw [Y1.out] at a3; exact HO6.out.next a3 k3 (stG_ok m1 m2)); clear a3 k3))
              go_roundw
              case rel => first | exact ⟨(j : Int) - 1, j, rfl, rfl, by omega, HO8.out⟩ | ((repeat apply Exists.intro); exact ⟨⟨(j : Int) - 1, j, rfl, rfl, by omega, HO8.out⟩, rfl⟩)
              case measure => (simp [intOf]) <;> omega
    · have e : t = T + 2 := by omega
      have i1 : ¬ (t : Int) ≤ (T : Int) + 1 := by omega
      go_wp2
      go_ret
      exact ⟨rfl, HO2.out.bel⟩
end Go.Proofs.Ytaofhooddbkglaa
