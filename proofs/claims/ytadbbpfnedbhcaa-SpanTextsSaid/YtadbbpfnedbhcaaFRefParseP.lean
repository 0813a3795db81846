/-
  WALK: the document's Parse, of a text without a sign.
-/
import Derived.Test.YtadbbpfnedbhcaaFRefParse
namespace Go.Proofs.Ytadbbpfnedbhcaa
open Go.RowKit FixMath
set_option maxRecDepth 100000
set_option linter.unusedVariables false
set_option linter.unusedSimpArgs false


set_option maxHeartbeats 8000000 in
theorem refParse_plus (s : ByteArray) (d : Nat) (w : World) (hd : d ≤ 6) (h18 : s.size ≤ 18) (hpos : 0 < s.size) (h45 : s[0] ≠ 45) :
    Calls Try.prog 36 #[.string s, .int .u8 d] w fun e w' => e = .returned (parseV s.data.toList d) ∧ w = w' := by
  have HF : Hid (from_ s.data.toList = 0) := Lib.hid (by unfold from_; rw [List.head?_eq_getElem?, List.getElem?_eq_getElem (by simpa using hpos), at_list _ _ hpos, if_neg (fun e => h45 (Option.some.inj e))])
  have hF : 0 ≤ s.size := by omega
  have HN := Lib.hid (fun h => parseV_f (l := s.data.toList) (d := d) h)
  have hd6 : ¬ 6 < d := by omega
  have h18' : ¬ 18 < s.size := by omega
  have b0 : ((s[0].toNat : Int) == 45) = false := by
    have : s[0].toNat ≠ 45 := fun e => h45 (UInt8.toNat_inj.1 (e.trans rfl))
    simp; omega
  go_enter Try.func36, Try.ntmps36
  go_wp2
  go_loop [7, 8, 9] (fun n dt i => ∃ (k dot v : Nat), i = .int .i64 k ∧ dt = .int .i64 dot ∧ n = .int .i64 v ∧ k ≤ s.size ∧ dot ≤ s.size ∧ v < 1000000000000000000 ∧ Hid (St s.data.toList k dot v)) (fun _ _ i => s.size - (intOf i).toNat)
  case atStart => exact ⟨0, s.size, 0, rfl, rfl, rfl, hF, Nat.le_refl _, by omega, Lib.hid (by have := St.start s.data.toList; rw [HF.out, len_list] at this; exact this)⟩
  case round =>
    obtain ⟨k, dot, v, rfl, rfl, rfl, hk, hdot, hv, HS⟩ := hrel
    by_cases hlt : k < s.size
    · have hlt' : k < s.data.toList.length := by rw [len_list]; exact hlt
      have hFk' : from_ s.data.toList ≤ k := by rw [HF.out]; omega
      have hv17 : v < 100000000000000000 := St_bound HS.out (by rw [len_list]; omega) (by omega)
      have hc := (s[k]'hlt).toNat_lt
      by_cases hdig : isDig (s[k]'hlt) = true
      · have HS' : Hid (St s.data.toList (k + 1) dot (10 * v + ((s[k]'hlt).toNat - 48))) := Lib.hid (HS.out.digit hlt' hFk' hdig)
        have hd2 := hdig
        simp only [isDig, decide_eq_true_eq] at hd2
        obtain ⟨c1, c2⟩ := hd2
        have c46 : (((s[k]'hlt).toNat : Int) == 46) = false := by simp; omega
        clear hdig hlt' hFk'
        go_wp2
        go_round
        case rel => exact ⟨k + 1, dot, _, by go_num, rfl, by go_num, by omega, hdot, by omega, HS'⟩
        case measure => simp [intOf]; omega
      · have hdig : isDig (s[k]'hlt) = false := by simpa using hdig
        by_cases h46 : (s[k]'hlt) = 46 ∧ dot = s.size
        · obtain ⟨e1, e2⟩ := h46
          subst e2
          have HS' : Hid (St s.data.toList (k + 1) k v) := Lib.hid (St.dot (by rw [len_list]; exact HS.out) hlt' hFk' (by rw [at_list _ _ hlt]; exact e1))
          have c46 : (((s[k]'hlt).toNat : Int) == 46) = true := by rw [e1]; rfl
          clear hdig hlt' hFk' e1
          go_wp2
          go_round
          case rel => exact ⟨k + 1, k, v, by go_num, rfl, rfl, by omega, by omega, hv, HS'⟩
          case measure => simp [intOf]; omega
        · have HV : Hid (parseV s.data.toList d = .tuple #[.int .i64 0, .int .i64 20]) := Lib.hid (HN.out (fun h => bad_mid HS.out hlt' hFk' hdig (by rw [at_list _ _ hlt, len_list]; exact h46) h.2))
          have hcases : ((((s[k]'hlt).toNat : Int) == 46) = true ∧ ((dot : Int) == (s.size : Int)) = false ∧ (s[k]'hlt).toNat < 48) ∨ ((((s[k]'hlt).toNat : Int) == 46) = false ∧ (s[k]'hlt).toNat < 48) ∨ ((((s[k]'hlt).toNat : Int) == 46) = false ∧ ¬ (s[k]'hlt).toNat < 48 ∧ 57 < (s[k]'hlt).toNat) := by
            simp only [isDig, decide_eq_false_iff_not] at hdig
            by_cases e : (s[k]'hlt) = 46
            · have e3 : (s[k]'hlt).toNat = 46 := by rw [e]; rfl
              have : dot ≠ s.size := fun x => h46 ⟨e, x⟩
              exact .inl ⟨by rw [e3]; rfl, by simp; omega, by omega⟩
            · have e3 : (s[k]'hlt).toNat ≠ 46 := fun x => e (UInt8.toNat_inj.1 (x.trans rfl))
              by_cases l48 : (s[k]'hlt).toNat < 48
              · exact .inr (.inl ⟨by simp; omega, l48⟩)
              · exact .inr (.inr ⟨by simp; omega, l48, by omega⟩)
          clear hdig h46 hlt' hFk'
          rcases hcases with ⟨c1, c2, c3⟩ | ⟨c1, c2⟩ | ⟨c1, c2, c3⟩
          all_goals
            go_wp2
            go_ret2
            exact ⟨by rw [HV.out]; rfl, rfl⟩
    · have ek : k = s.size := by omega
      subst ek
      have HG := Lib.hid (fun g => good_end (l := s.data.toList) (d := d) (by rw [len_list]; exact HS.out) g)
      have HB := Lib.hid (fun g => bad_end (l := s.data.toList) (d := d) (by rw [len_list]; exact HS.out) g)
      clear hlt HS hk
      have hgood : FixMath.Good s.data.toList d dot v ↔ (0 < dot ∧ ¬ (1 < dot ∧ s.data.toList[0]? = some 48) ∧ (if dot = s.size then 0 else s.size - dot - 1) = d ∧ ¬ (dot < s.size ∧ d = 0) ∧ v ≤ 1000000000000000 ∧ ¬ ((0 : Nat) = 1 ∧ v = 0)) := by
        unfold FixMath.Good
        rw [HF.out, len_list, Nat.sub_zero, show (1 ≤ dot ↔ 0 < dot) by omega]
      have HOK : Hid (FixMath.Good s.data.toList d dot v → parseV s.data.toList d = .tuple #[.int .i64 ((v : Int)), .int .i64 0]) := Lib.hid (fun g => by
        obtain ⟨k1, k2⟩ := HG.out g
        rw [HF.out] at k2
        rw [parseV_t ⟨hd, k1⟩, k2]; rfl)
      have HER : Hid (¬ FixMath.Good s.data.toList d dot v → parseV s.data.toList d = .tuple #[.int .i64 0, .int .i64 20]) := Lib.hid (fun g => HN.out (fun h => HB.out g h.2))
      clear HG HB HN
      by_cases f1 : 0 < dot
      · have hFs : 0 < s.size := by omega
        have hfirst : s.data.toList[0]? = some (s[0]'hFs) := by rw [List.getElem?_eq_getElem (by simpa using hFs)]; rfl
        rw [hfirst] at hgood
        have i1 : (1 : Int) ≤ (dot : Int) := by omega
        have c48 : (((s[0]'hFs).toNat : Int) == 48) = decide ((s[0]'hFs) = 48) := by
          rw [Bool.eq_iff_iff, beq_iff_eq, decide_eq_true_eq, ← UInt8.toNat_inj]
          show ((s[0]'hFs).toNat : Int) = 48 ↔ (s[0]'hFs).toNat = 48
          omega
        by_cases f2 : 1 < dot ∧ (s[0]'hFs) = 48
        · have HV := Lib.hid (HER.out (fun g => (hgood.1 g).2.1 ⟨f2.1, by rw [f2.2]⟩))
          have i2 : (1 : Int) < (dot : Int) := by omega
          have e48 : ((s[0]'hFs).toNat : Int) = 48 := by rw [f2.2]; rfl
          clear hgood HOK HER hfirst f2 c48
          by_cases hds : dot = s.size
          · subst hds
            go_wp2
            go_ret2
            exact ⟨by rw [HV.out]; rfl, rfl⟩
          · have hne : ((dot : Int) == (s.size : Int)) = false := by simp; omega
            go_wp2
            go_ret2
            exact ⟨by rw [HV.out]; rfl, rfl⟩
        · have f2' : ((1 : Int) < (dot : Int) ∧ (((s[0]'hFs).toNat : Int) == 48) = false ∧ ¬ ((s[0]'hFs).toNat : Int) = 48) ∨ ¬ (1 : Int) < (dot : Int) := by
            by_cases h : 1 < dot
            · have h8 : (((s[0]'hFs).toNat : Int) == 48) = false := by rw [c48, decide_eq_false (fun e => f2 ⟨h, e⟩)]
              exact .inl ⟨by omega, h8, by simpa using h8⟩
            · exact .inr (by omega)
          have f2'' : ¬ (1 < dot ∧ some (s[0]'hFs) = some 48) := fun h => f2 ⟨h.1, Option.some.inj h.2⟩
          clear c48 f2 hfirst
          rcases f2' with ⟨w1, w2, w3⟩ | w1
          · by_cases hds : dot = s.size
            · subst hds
              rw [if_pos rfl] at hgood
              by_cases hd0 : d = 0
              · subst hd0
                by_cases hM : v ≤ 1000000000000000
                · have HV := Lib.hid (HOK.out (hgood.2 ⟨f1, f2'', rfl, fun h => (by omega), hM, fun h => (by omega)⟩))
                  clear hgood HOK HER f2''
                  go_wp2
                  go_ret2
                  exact ⟨by rw [HV.out]; rfl, rfl⟩
                · have hM2 : (1000000000000000 : Int) < v := by omega
                  have HV := Lib.hid (HER.out (fun g => by have g := hgood.1 g; exact hM g.2.2.2.2.1))
                  clear hgood HOK HER f2''
                  go_wp2
                  go_ret2
                  exact ⟨by rw [HV.out]; rfl, rfl⟩
              · have hd0' : ((0 : Int) == (d : Int)) = false := by simp; omega
                have hd1 : 0 < d := by omega
                have hd2 : ¬ (0 : Int) = (d : Int) := by omega
                have HV := Lib.hid (HER.out (fun g => by have g := hgood.1 g; exact hd0 g.2.2.1.symm))
                clear hgood HOK HER f2''
                go_wp2
                go_ret2
                exact ⟨by rw [HV.out]; rfl, rfl⟩
            · have hne : ((dot : Int) == (s.size : Int)) = false := by simp; omega
              have hlt2 : dot < s.size := by omega
              rw [if_neg hds] at hgood
              by_cases hp : s.size - dot - 1 = d
              · have hp2 : (s.size : Int) - (dot : Int) - 1 = (d : Int) := by omega
                by_cases hd0 : d = 0
                · subst hd0
                  have hp3 : (s.size : Int) - (dot : Int) - 1 = 0 := by omega
                  clear hp2
                  have HV := Lib.hid (HER.out (fun g => by have g := hgood.1 g; exact g.2.2.2.1 ⟨hlt2, rfl⟩))
                  clear hgood HOK HER f2''
                  go_wp2
                  go_ret2
                  exact ⟨by rw [HV.out]; rfl, rfl⟩
                · have hd1 : 0 < d := by omega
                  have hd0' : ((d : Int) == 0) = false := by simp; omega
                  by_cases hM : v ≤ 1000000000000000
                  · have HV := Lib.hid (HOK.out (hgood.2 ⟨f1, f2'', hp, fun h => hd0 h.2, hM, fun h => (by omega)⟩))
                    clear hgood HOK HER f2''
                    go_wp2
                    go_ret2
                    exact ⟨by rw [HV.out]; rfl, rfl⟩
                  · have hM2 : (1000000000000000 : Int) < v := by omega
                    have HV := Lib.hid (HER.out (fun g => by have g := hgood.1 g; exact hM g.2.2.2.2.1))
                    clear hgood HOK HER f2''
                    go_wp2
                    go_ret2
                    exact ⟨by rw [HV.out]; rfl, rfl⟩
              · have hp2 : ((s.size : Int) - (dot : Int) - 1 == (d : Int)) = false := by simp; omega
                have hp3 : ¬ (s.size : Int) - (dot : Int) - 1 = (d : Int) := by omega
                have HV := Lib.hid (HER.out (fun g => by have g := hgood.1 g; exact hp g.2.2.1))
                clear hgood HOK HER f2''
                go_wp2
                go_ret2
                exact ⟨by rw [HV.out]; rfl, rfl⟩
          · by_cases hds : dot = s.size
            · subst hds
              rw [if_pos rfl] at hgood
              by_cases hd0 : d = 0
              · subst hd0
                by_cases hM : v ≤ 1000000000000000
                · have HV := Lib.hid (HOK.out (hgood.2 ⟨f1, f2'', rfl, fun h => (by omega), hM, fun h => (by omega)⟩))
                  clear hgood HOK HER f2''
                  go_wp2
                  go_ret2
                  exact ⟨by rw [HV.out]; rfl, rfl⟩
                · have hM2 : (1000000000000000 : Int) < v := by omega
                  have HV := Lib.hid (HER.out (fun g => by have g := hgood.1 g; exact hM g.2.2.2.2.1))
                  clear hgood HOK HER f2''
                  go_wp2
                  go_ret2
                  exact ⟨by rw [HV.out]; rfl, rfl⟩
              · have hd0' : ((0 : Int) == (d : Int)) = false := by simp; omega
                have hd1 : 0 < d := by omega
                have hd2 : ¬ (0 : Int) = (d : Int) := by omega
                have HV := Lib.hid (HER.out (fun g => by have g := hgood.1 g; exact hd0 g.2.2.1.symm))
                clear hgood HOK HER f2''
                go_wp2
                go_ret2
                exact ⟨by rw [HV.out]; rfl, rfl⟩
            · have hne : ((dot : Int) == (s.size : Int)) = false := by simp; omega
              have hlt2 : dot < s.size := by omega
              rw [if_neg hds] at hgood
              by_cases hp : s.size - dot - 1 = d
              · have hp2 : (s.size : Int) - (dot : Int) - 1 = (d : Int) := by omega
                by_cases hd0 : d = 0
                · subst hd0
                  have hp3 : (s.size : Int) - (dot : Int) - 1 = 0 := by omega
                  clear hp2
                  have HV := Lib.hid (HER.out (fun g => by have g := hgood.1 g; exact g.2.2.2.1 ⟨hlt2, rfl⟩))
                  clear hgood HOK HER f2''
                  go_wp2
                  go_ret2
                  exact ⟨by rw [HV.out]; rfl, rfl⟩
                · have hd1 : 0 < d := by omega
                  have hd0' : ((d : Int) == 0) = false := by simp; omega
                  by_cases hM : v ≤ 1000000000000000
                  · have HV := Lib.hid (HOK.out (hgood.2 ⟨f1, f2'', hp, fun h => hd0 h.2, hM, fun h => (by omega)⟩))
                    clear hgood HOK HER f2''
                    go_wp2
                    go_ret2
                    exact ⟨by rw [HV.out]; rfl, rfl⟩
                  · have hM2 : (1000000000000000 : Int) < v := by omega
                    have HV := Lib.hid (HER.out (fun g => by have g := hgood.1 g; exact hM g.2.2.2.2.1))
                    clear hgood HOK HER f2''
                    go_wp2
                    go_ret2
                    exact ⟨by rw [HV.out]; rfl, rfl⟩
              · have hp2 : ((s.size : Int) - (dot : Int) - 1 == (d : Int)) = false := by simp; omega
                have hp3 : ¬ (s.size : Int) - (dot : Int) - 1 = (d : Int) := by omega
                have HV := Lib.hid (HER.out (fun g => by have g := hgood.1 g; exact hp g.2.2.1))
                clear hgood HOK HER f2''
                go_wp2
                go_ret2
                exact ⟨by rw [HV.out]; rfl, rfl⟩
      · have HV := Lib.hid (HER.out (fun g => f1 (hgood.1 g).1))
        have i1 : (dot : Int) < 1 := by omega
        clear hgood HOK HER
        by_cases hds : dot = s.size
        · subst hds
          go_wp2
          go_ret2
          exact ⟨by rw [HV.out]; rfl, rfl⟩
        · have hne : ((dot : Int) == (s.size : Int)) = false := by simp; omega
          go_wp2
          go_ret2
          exact ⟨by rw [HV.out]; rfl, rfl⟩


theorem refParse_empty (d : Nat) (w : World) (hd : d ≤ 6) :
    Calls Try.prog 36 #[.string ⟨#[]⟩, .int .u8 d] w fun e w' => e = .returned (parseV [] d) ∧ w = w' := by
  have HV : Hid (parseV [] d = .tuple #[.int .i64 0, .int .i64 20]) := Lib.hid (parseV_f (fun h => by
    have h2 := h.2
    obtain ⟨n, _, _, e⟩ := h2
    obtain ⟨c, t, e2, _⟩ := natText_head n.natAbs d
    unfold fixText at e
    rw [e2] at e
    have := congrArg List.length e
    simp at this))
  have hd6 : ¬ 6 < d := by omega
  go_enter Try.func36, Try.ntmps36
  go_wp2
  go_loop [7, 8, 9] (fun n dt i => n = .int .i64 0 ∧ dt = .int .i64 0 ∧ i = .int .i64 0) (fun _ _ _ => 0)
  case atStart => exact ⟨rfl, rfl, rfl⟩
  case round =>
    obtain ⟨rfl, rfl, rfl⟩ := hrel
    go_wp2
    go_ret2
    exact ⟨by rw [HV.out]; rfl, rfl⟩

theorem refParse_any (s : ByteArray) (d : Nat) (w : World) (hs : s.size ≤ maxLen) :
    Calls Try.prog 36 #[.string s, .int .u8 d] w fun e w' => e = .returned (parseV s.data.toList d) ∧ w = w' := by
  by_cases hd : d ≤ 6
  · by_cases h18 : s.size ≤ 18
    · by_cases h0 : s.size = 0
      · have es : s = ⟨#[]⟩ := by
          apply ByteArray.ext
          exact Array.eq_empty_of_size_eq_zero h0
        subst es
        exact refParse_empty d w hd
      · by_cases h45 : s[0]'(by omega) = 45
        · exact refParse_minus s d w hd h18 (by omega) h45
        · exact refParse_plus s d w hd h18 (by omega) h45
    · exact refParse_f s d w hs (.inr ⟨hd, by omega⟩)
  · exact refParse_f s d w hs (.inl (by omega))
end Go.Proofs.Ytadbbpfnedbhcaa
