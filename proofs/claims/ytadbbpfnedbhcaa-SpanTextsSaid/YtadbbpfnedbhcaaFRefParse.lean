/-
  WALK: the document's Parse.
-/
import Derived.Test.YtadbbpfnedbhcaaFParse
namespace Go.Proofs.Ytadbbpfnedbhcaa
open Go.RowKit FixMath
set_option maxRecDepth 100000
set_option linter.unusedVariables false
set_option linter.unusedSimpArgs false

theorem at_list (s : ByteArray) (k : Nat) (h : k < s.size) : s.data.toList[k]'(by simpa using h) = s[k] := rfl
theorem len_list (s : ByteArray) : s.data.toList.length = s.size := by simp
theorem St_bound {l : Bs} {i dot n : Nat} (h : St l i dot n) (hi : i ≤ l.length) (h17 : i ≤ 17) : n < 100000000000000000 := by
  have h1 := h.small hi
  have h2 : 10 ^ i ≤ 10 ^ 17 := Nat.pow_le_pow_right (by omega) h17
  have : (10 : Nat) ^ 17 = 100000000000000000 := by decide
  omega
theorem St_dot_le {l : Bs} {i dot n : Nat} (h : St l i dot n) : dot ≤ l.length := by
  rcases h with ⟨h, _⟩ | ⟨h, _⟩ <;> omega
theorem St_dot_ge {l : Bs} {i dot n : Nat} (h : St l i dot n) : from_ l ≤ dot := by
  have := from_len (l := l)
  rcases h with ⟨h, _⟩ | ⟨h, a, b, _, _, _, h4, _⟩ <;> omega

theorem refParse_f (s : ByteArray) (d : Nat) (w : World) (hs : s.size ≤ maxLen) (h : 6 < d ∨ (d ≤ 6 ∧ 18 < s.size)) :
    Calls Try.prog 36 #[.string s, .int .u8 d] w fun e w' => e = .returned (parseV s.data.toList d) ∧ w = w' := by
  unfold maxLen at hs
  have HV := Lib.hid (parseV_f (l := s.data.toList) (d := d) (fun k => by have := isText_len k; have := k.1; simp at *; omega))
  rcases h with h | ⟨h1, h2⟩
  all_goals
    go_enter Try.func36, Try.ntmps36
    go_wp2
    go_ret2
    exact ⟨by rw [HV.out]; rfl, rfl⟩


set_option maxHeartbeats 8000000 in
theorem refParse_minus (s : ByteArray) (d : Nat) (w : World) (hd : d ≤ 6) (h18 : s.size ≤ 18) (hpos : 0 < s.size) (h45 : s[0] = 45) :
    Calls Try.prog 36 #[.string s, .int .u8 d] w fun e w' => e = .returned (parseV s.data.toList d) ∧ w = w' := by
  have HF : Hid (from_ s.data.toList = 1) := Lib.hid (by unfold from_; rw [List.head?_eq_getElem?, List.getElem?_eq_getElem (by simpa using hpos), at_list _ _ hpos, h45]; rfl)
  have hF : 1 ≤ s.size := by omega
  have HN := Lib.hid (fun h => parseV_f (l := s.data.toList) (d := d) h)
  have hd6 : ¬ 6 < d := by omega
  have h18' : ¬ 18 < s.size := by omega
  have b0 : ((s[0].toNat : Int) == 45) = true := by rw [h45]; rfl
  go_enter Try.func36, Try.ntmps36
  go_wp2
  go_loop [7, 8, 9] (fun n dt i => ∃ (k dot v : Nat), i = .int .i64 k ∧ dt = .int .i64 dot ∧ n = .int .i64 v ∧ k ≤ s.size ∧ 1 ≤ k ∧ dot ≤ s.size ∧ 1 ≤ dot ∧ v < 1000000000000000000 ∧ Hid (St s.data.toList k dot v)) (fun _ _ i => s.size - (intOf i).toNat)
  case atStart => exact ⟨1, s.size, 0, rfl, rfl, rfl, hF, Nat.le_refl _, Nat.le_refl _, hF, by omega, Lib.hid (by have := St.start s.data.toList; rw [HF.out, len_list] at this; exact this)⟩
  case round =>
    obtain ⟨k, dot, v, rfl, rfl, rfl, hk, hFk, hdot, hFd, hv, HS⟩ := hrel
    by_cases hlt : k < s.size
    · have hlt' : k < s.data.toList.length := by rw [len_list]; exact hlt
      have hFk' : from_ s.data.toList ≤ k := by rw [HF.out]; exact hFk
      have hv17 : v < 100000000000000000 := St_bound HS.out (by rw [len_list]; omega) (by omega)
      have hc := (s[k]'hlt).toNat_lt
      by_cases hdig : isDig (s[k]'hlt) = true
      · have HS' : Hid (St s.data.toList (k + 1) dot (10 * v + ((s[k]'hlt).toNat - 48))) := Lib.hid (HS.out.digit hlt' hFk' hdig)
        have hd2 := hdig
        simp only [isDig, decide_eq_true_eq] at hd2
        obtain ⟨c1, c2⟩ := hd2
        have c46 : (((s[k]'hlt).toNat : Int) == 46) = false := by simp; omega
        clear hdig hlt' hFk'
        go_wp2
        go_round
        case rel => exact ⟨k + 1, dot, _, by go_num, rfl, by go_num, by omega, by omega, hdot, hFd, by omega, HS'⟩
        case measure => simp [intOf]; omega
      · have hdig : isDig (s[k]'hlt) = false := by simpa using hdig
        by_cases h46 : (s[k]'hlt) = 46 ∧ dot = s.size
        · obtain ⟨e1, e2⟩ := h46
          subst e2
          have HS' : Hid (St s.data.toList (k + 1) k v) := Lib.hid (St.dot (by rw [len_list]; exact HS.out) hlt' hFk' (by rw [at_list _ _ hlt]; exact e1))
          have c46 : (((s[k]'hlt).toNat : Int) == 46) = true := by rw [e1]; rfl
          clear hdig hlt' hFk' e1
          go_wp2
          go_round
          case rel => exact ⟨k + 1, k, v, by go_num, rfl, rfl, by omega, by omega, by omega, hFk, hv, HS'⟩
          case measure => simp [intOf]; omega
        · have HV : Hid (parseV s.data.toList d = .tuple #[.int .i64 0, .int .i64 20]) := Lib.hid (HN.out (fun h => bad_mid HS.out hlt' hFk' hdig (by rw [at_list _ _ hlt, len_list]; exact h46) h.2))
          have hcases : ((((s[k]'hlt).toNat : Int) == 46) = true ∧ ((dot : Int) == (s.size : Int)) = false ∧ (s[k]'hlt).toNat < 48) ∨ ((((s[k]'hlt).toNat : Int) == 46) = false ∧ (s[k]'hlt).toNat < 48) ∨ ((((s[k]'hlt).toNat : Int) == 46) = false ∧ ¬ (s[k]'hlt).toNat < 48 ∧ 57 < (s[k]'hlt).toNat) := by
            simp only [isDig, decide_eq_false_iff_not] at hdig
            by_cases e : (s[k]'hlt) = 46
            · have e3 : (s[k]'hlt).toNat = 46 := by rw [e]; rfl
              have : dot ≠ s.size := fun x => h46 ⟨e, x⟩
              exact .inl ⟨by rw [e3]; rfl, by simp; omega, by omega⟩
            · have e3 : (s[k]'hlt).toNat ≠ 46 := fun x => e (UInt8.toNat_inj.1 (x.trans rfl))
              by_cases l48 : (s[k]'hlt).toNat < 48
              · exact .inr (.inl ⟨by simp; omega, l48⟩)
              · exact .inr (.inr ⟨by simp; omega, l48, by omega⟩)
          clear hdig h46 hlt' hFk'
          rcases hcases with ⟨c1, c2, c3⟩ | ⟨c1, c2⟩ | ⟨c1, c2, c3⟩
          all_goals
            go_wp2
            go_ret2
            exact ⟨by rw [HV.out]; rfl, rfl⟩
    · have ek : k = s.size := by omega
      subst ek
      have HG := Lib.hid (fun g => good_end (l := s.data.toList) (d := d) (by rw [len_list]; exact HS.out) g)
      have HB := Lib.hid (fun g => bad_end (l := s.data.toList) (d := d) (by rw [len_list]; exact HS.out) g)
      clear hlt HS hk
      have hgood : FixMath.Good s.data.toList d dot v ↔ (1 < dot ∧ ¬ (1 + 1 < dot ∧ s.data.toList[1]? = some 48) ∧ (if dot = s.size then 0 else s.size - dot - 1) = d ∧ ¬ (dot < s.size ∧ d = 0) ∧ v ≤ 1000000000000000 ∧ ¬ (1 = 1 ∧ v = 0)) := by
        unfold FixMath.Good
        rw [HF.out, len_list, show (1 ≤ dot - 1 ↔ 1 < dot) by omega, show (1 < dot - 1 ↔ 1 + 1 < dot) by omega]
      have HOK : Hid (FixMath.Good s.data.toList d dot v → parseV s.data.toList d = .tuple #[.int .i64 (-(v : Int)), .int .i64 0]) := Lib.hid (fun g => by
        obtain ⟨k1, k2⟩ := HG.out g
        rw [HF.out] at k2
        rw [parseV_t ⟨hd, k1⟩, k2]; rfl)
      have HER : Hid (¬ FixMath.Good s.data.toList d dot v → parseV s.data.toList d = .tuple #[.int .i64 0, .int .i64 20]) := Lib.hid (fun g => HN.out (fun h => HB.out g h.2))
      clear HG HB HN
      by_cases f1 : 1 < dot
      · have hFs : 1 < s.size := by omega
        have hfirst : s.data.toList[1]? = some (s[1]'hFs) := by rw [List.getElem?_eq_getElem (by simpa using hFs)]; rfl
        rw [hfirst] at hgood
        have i1 : (1 : Int) ≤ (dot : Int) - 1 := by omega
        have c48 : (((s[1]'hFs).toNat : Int) == 48) = decide ((s[1]'hFs) = 48) := by
          rw [Bool.eq_iff_iff, beq_iff_eq, decide_eq_true_eq, ← UInt8.toNat_inj]
          show ((s[1]'hFs).toNat : Int) = 48 ↔ (s[1]'hFs).toNat = 48
          omega
        by_cases f2 : 1 + 1 < dot ∧ (s[1]'hFs) = 48
        · have HV := Lib.hid (HER.out (fun g => (hgood.1 g).2.1 ⟨f2.1, by rw [f2.2]⟩))
          have i2 : (1 : Int) < (dot : Int) - 1 := by omega
          have e48 : ((s[1]'hFs).toNat : Int) = 48 := by rw [f2.2]; rfl
          clear hgood HOK HER hfirst f2 c48
          by_cases hds : dot = s.size
          · subst hds
            go_wp2
            go_ret2
            exact ⟨by rw [HV.out]; rfl, rfl⟩
          · have hne : ((dot : Int) == (s.size : Int)) = false := by simp; omega
            go_wp2
            go_ret2
            exact ⟨by rw [HV.out]; rfl, rfl⟩
        · have f2' : ((1 : Int) < (dot : Int) - 1 ∧ (((s[1]'hFs).toNat : Int) == 48) = false ∧ ¬ ((s[1]'hFs).toNat : Int) = 48) ∨ ¬ (1 : Int) < (dot : Int) - 1 := by
            by_cases h : 1 + 1 < dot
            · have h8 : (((s[1]'hFs).toNat : Int) == 48) = false := by rw [c48, decide_eq_false (fun e => f2 ⟨h, e⟩)]
              exact .inl ⟨by omega, h8, by simpa using h8⟩
            · exact .inr (by omega)
          have f2'' : ¬ (1 + 1 < dot ∧ some (s[1]'hFs) = some 48) := fun h => f2 ⟨h.1, Option.some.inj h.2⟩
          clear c48 f2 hfirst
          rcases f2' with ⟨w1, w2, w3⟩ | w1
          · by_cases hds : dot = s.size
            · subst hds
              rw [if_pos rfl] at hgood
              by_cases hd0 : d = 0
              · subst hd0
                by_cases hM : v ≤ 1000000000000000
                · by_cases hv0 : v = 0
                  · subst hv0
                    have HV := Lib.hid (HER.out (fun g => by have g := hgood.1 g; exact g.2.2.2.2.2 ⟨rfl, rfl⟩))
                    clear hgood HOK HER f2''
                    go_wp2
                    go_ret2
                    exact ⟨by rw [HV.out]; rfl, rfl⟩
                  · have HV := Lib.hid (HOK.out (hgood.2 ⟨f1, f2'', rfl, fun h => (by omega), hM, fun h => hv0 h.2⟩))
                    clear hgood HOK HER f2''
                    have hv1 : ((v : Int) == 0) = false := by simp; omega
                    go_wp2
                    go_ret2
                    exact ⟨by rw [HV.out]; rfl, rfl⟩
                · have hM2 : (1000000000000000 : Int) < v := by omega
                  have HV := Lib.hid (HER.out (fun g => by have g := hgood.1 g; exact hM g.2.2.2.2.1))
                  clear hgood HOK HER f2''
                  go_wp2
                  go_ret2
                  exact ⟨by rw [HV.out]; rfl, rfl⟩
              · have hd0' : ((0 : Int) == (d : Int)) = false := by simp; omega
                have hd1 : 0 < d := by omega
                have hd2 : ¬ (0 : Int) = (d : Int) := by omega
                have HV := Lib.hid (HER.out (fun g => by have g := hgood.1 g; exact hd0 g.2.2.1.symm))
                clear hgood HOK HER f2''
                go_wp2
                go_ret2
                exact ⟨by rw [HV.out]; rfl, rfl⟩
            · have hne : ((dot : Int) == (s.size : Int)) = false := by simp; omega
              have hlt2 : dot < s.size := by omega
              rw [if_neg hds] at hgood
              by_cases hp : s.size - dot - 1 = d
              · have hp2 : (s.size : Int) - (dot : Int) - 1 = (d : Int) := by omega
                by_cases hd0 : d = 0
                · subst hd0
                  have hp3 : (s.size : Int) - (dot : Int) - 1 = 0 := by omega
                  clear hp2
                  have HV := Lib.hid (HER.out (fun g => by have g := hgood.1 g; exact g.2.2.2.1 ⟨hlt2, rfl⟩))
                  clear hgood HOK HER f2''
                  go_wp2
                  go_ret2
                  exact ⟨by rw [HV.out]; rfl, rfl⟩
                · have hd1 : 0 < d := by omega
                  have hd0' : ((d : Int) == 0) = false := by simp; omega
                  by_cases hM : v ≤ 1000000000000000
                  · by_cases hv0 : v = 0
                    · subst hv0
                      have HV := Lib.hid (HER.out (fun g => by have g := hgood.1 g; exact g.2.2.2.2.2 ⟨rfl, rfl⟩))
                      clear hgood HOK HER f2''
                      go_wp2
                      go_ret2
                      exact ⟨by rw [HV.out]; rfl, rfl⟩
                    · have HV := Lib.hid (HOK.out (hgood.2 ⟨f1, f2'', hp, fun h => hd0 h.2, hM, fun h => hv0 h.2⟩))
                      clear hgood HOK HER f2''
                      have hv1 : ((v : Int) == 0) = false := by simp; omega
                      go_wp2
                      go_ret2
                      exact ⟨by rw [HV.out]; rfl, rfl⟩
                  · have hM2 : (1000000000000000 : Int) < v := by omega
                    have HV := Lib.hid (HER.out (fun g => by have g := hgood.1 g; exact hM g.2.2.2.2.1))
                    clear hgood HOK HER f2''
                    go_wp2
                    go_ret2
                    exact ⟨by rw [HV.out]; rfl, rfl⟩
              · have hp2 : ((s.size : Int) - (dot : Int) - 1 == (d : Int)) = false := by simp; omega
                have hp3 : ¬ (s.size : Int) - (dot : Int) - 1 = (d : Int) := by omega
                have HV := Lib.hid (HER.out (fun g => by have g := hgood.1 g; exact hp g.2.2.1))
                clear hgood HOK HER f2''
                go_wp2
                go_ret2
                exact ⟨by rw [HV.out]; rfl, rfl⟩
          · by_cases hds : dot = s.size
            · subst hds
              rw [if_pos rfl] at hgood
              by_cases hd0 : d = 0
              · subst hd0
                by_cases hM : v ≤ 1000000000000000
                · by_cases hv0 : v = 0
                  · subst hv0
                    have HV := Lib.hid (HER.out (fun g => by have g := hgood.1 g; exact g.2.2.2.2.2 ⟨rfl, rfl⟩))
                    clear hgood HOK HER f2''
                    go_wp2
                    go_ret2
                    exact ⟨by rw [HV.out]; rfl, rfl⟩
                  · have HV := Lib.hid (HOK.out (hgood.2 ⟨f1, f2'', rfl, fun h => (by omega), hM, fun h => hv0 h.2⟩))
                    clear hgood HOK HER f2''
                    have hv1 : ((v : Int) == 0) = false := by simp; omega
                    go_wp2
                    go_ret2
                    exact ⟨by rw [HV.out]; rfl, rfl⟩
                · have hM2 : (1000000000000000 : Int) < v := by omega
                  have HV := Lib.hid (HER.out (fun g => by have g := hgood.1 g; exact hM g.2.2.2.2.1))
                  clear hgood HOK HER f2''
                  go_wp2
                  go_ret2
                  exact ⟨by rw [HV.out]; rfl, rfl⟩
              · have hd0' : ((0 : Int) == (d : Int)) = false := by simp; omega
                have hd1 : 0 < d := by omega
                have hd2 : ¬ (0 : Int) = (d : Int) := by omega
                have HV := Lib.hid (HER.out (fun g => by have g := hgood.1 g; exact hd0 g.2.2.1.symm))
                clear hgood HOK HER f2''
                go_wp2
                go_ret2
                exact ⟨by rw [HV.out]; rfl, rfl⟩
            · have hne : ((dot : Int) == (s.size : Int)) = false := by simp; omega
              have hlt2 : dot < s.size := by omega
              rw [if_neg hds] at hgood
              by_cases hp : s.size - dot - 1 = d
              · have hp2 : (s.size : Int) - (dot : Int) - 1 = (d : Int) := by omega
                by_cases hd0 : d = 0
                · subst hd0
                  have hp3 : (s.size : Int) - (dot : Int) - 1 = 0 := by omega
                  clear hp2
                  have HV := Lib.hid (HER.out (fun g => by have g := hgood.1 g; exact g.2.2.2.1 ⟨hlt2, rfl⟩))
                  clear hgood HOK HER f2''
                  go_wp2
                  go_ret2
                  exact ⟨by rw [HV.out]; rfl, rfl⟩
                · have hd1 : 0 < d := by omega
                  have hd0' : ((d : Int) == 0) = false := by simp; omega
                  by_cases hM : v ≤ 1000000000000000
                  · by_cases hv0 : v = 0
                    · subst hv0
                      have HV := Lib.hid (HER.out (fun g => by have g := hgood.1 g; exact g.2.2.2.2.2 ⟨rfl, rfl⟩))
                      clear hgood HOK HER f2''
                      go_wp2
                      go_ret2
                      exact ⟨by rw [HV.out]; rfl, rfl⟩
                    · have HV := Lib.hid (HOK.out (hgood.2 ⟨f1, f2'', hp, fun h => hd0 h.2, hM, fun h => hv0 h.2⟩))
                      clear hgood HOK HER f2''
                      have hv1 : ((v : Int) == 0) = false := by simp; omega
                      go_wp2
                      go_ret2
                      exact ⟨by rw [HV.out]; rfl, rfl⟩
                  · have hM2 : (1000000000000000 : Int) < v := by omega
                    have HV := Lib.hid (HER.out (fun g => by have g := hgood.1 g; exact hM g.2.2.2.2.1))
                    clear hgood HOK HER f2''
                    go_wp2
                    go_ret2
                    exact ⟨by rw [HV.out]; rfl, rfl⟩
              · have hp2 : ((s.size : Int) - (dot : Int) - 1 == (d : Int)) = false := by simp; omega
                have hp3 : ¬ (s.size : Int) - (dot : Int) - 1 = (d : Int) := by omega
                have HV := Lib.hid (HER.out (fun g => by have g := hgood.1 g; exact hp g.2.2.1))
                clear hgood HOK HER f2''
                go_wp2
                go_ret2
                exact ⟨by rw [HV.out]; rfl, rfl⟩
      · have HV := Lib.hid (HER.out (fun g => f1 (hgood.1 g).1))
        have i1 : (dot : Int) - 1 < 1 := by omega
        clear hgood HOK HER
        by_cases hds : dot = s.size
        · subst hds
          go_wp2
          go_ret2
          exact ⟨by rw [HV.out]; rfl, rfl⟩
        · have hne : ((dot : Int) == (s.size : Int)) = false := by simp; omega
          go_wp2
          go_ret2
          exact ⟨by rw [HV.out]; rfl, rfl⟩

end Go.Proofs.Ytadbbpfnedbhcaa
