/-
  WALK: a stamp read of a text: the document's Parse.
-/
import Derived.Test.YthdphdmiafkkgaaDoorURefText
namespace Go.Proofs.YthdphdmiafkkgaaDoor.UX
open Go.RowKit FixMath
set_option maxRecDepth 100000
set_option linter.unusedVariables false
set_option linter.unusedSimpArgs false

theorem u_take (s : ByteArray) (k : Nat) (h : k ≤ s.size) : (s.extract 0 k).data.toList = s.data.toList.take k := by simp
theorem u_drop (s : ByteArray) (k : Nat) : (s.extract k s.size).data.toList = s.data.toList.drop k := by
  simp
  exact List.take_of_length_le (by simp)
set_option maxHeartbeats 4000000 in
theorem refParse15_any (s : ByteArray) (w : World) (hs : s.size ≤ maxLen) : Calls Tryd.prog 16 #[.string s] w fun e w' => e = .returned (paV s.data.toList) ∧ Below w.heap.size w w' := by
  have hb : Below w.heap.size w w := Below.refl _ _
  have CN := Lib.hid (fun (z : ByteArray) (hz : z.size ≤ maxLen) (W : World) => refNumber_any z W hz)
  unfold maxLen at hs
  obtain ⟨V, hV⟩ : ∃ V, paV s.data.toList = V := ⟨_, rfl⟩
  rw [hV]
  have HP := Lib.hid hV.symm
  clear hV
  go_enter Tryd.func16, Tryd.ntmps16
  go_wp2
  go_loop [4] (fun i => ∃ k : Nat, i = .int .i64 k ∧ k ≤ s.size ∧ Hid ((46 : UInt8) ∉ s.data.toList.take k)) (fun i => s.size - (intOf i).toNat)
  case atStart => exact ⟨0, rfl, Nat.zero_le _, Lib.hid (by simp)⟩
  case round =>
    obtain ⟨k, rfl, hk, HD⟩ := hrel
    have r := At2.new w 0 0 23
    have r0 := r.c0; have r1 := r.c1; have g0 := r.f0; have g1 := r.f1
    by_cases hlt : k < s.size
    · have hlt' : k < s.data.toList.length := by rw [u_len]; exact hlt
      have hc := (s[k]'hlt).toNat_lt
      by_cases e46 : (s[k]'hlt) = 46
      · have c46 : (((s[k]'hlt).toNat : Int) == 46) = true := by rw [e46]; rfl
        have HL : Hid (s.data.toList = s.data.toList.take k ++ 46 :: s.data.toList.drop (k + 1)) := Lib.hid (by
          conv => lhs; rw [← List.take_append_drop k s.data.toList, List.drop_eq_getElem_cons hlt', u_at _ _ hlt, e46])
        have HK : Hid (∀ d t, isTx s.data.toList d t → s.data.toList.take k = nt d ∧ s.data.toList.drop (k + 1) = nt t) := Lib.hid (fun d t h => tx_cut HL.out HD.out h)
        have hkk : k ≤ s.size := hk
        have C1 := CN.out (s.extract 0 k) (by simp; unfold maxLen; omega)
        have C2 := CN.out (s.extract (k + 1) s.size) (by simp; unfold maxLen; omega)
        rw [u_take s k hk] at C1
        rw [u_drop] at C2
        have hne : ((k : Int) == (s.size : Int)) = false := by simp; omega
        generalize s.data.toList.take k = x at *
        generalize s.data.toList.drop (k + 1) = y at *
        clear e46 hlt' HD
        by_cases n1 : isNum x
        · by_cases n2 : isNum y
          · rw [rnV_y n1] at C1
            rw [rnV_y n2] at C2
            have CM := Lib.hid (fun (a b : Int) (W : World) => refMay15_any a b W)
            obtain ⟨a, ha⟩ : ∃ a, val x = a := ⟨_, rfl⟩
            obtain ⟨b, hbq⟩ : ∃ b, val y = b := ⟨_, rfl⟩
            rw [ha] at C1
            rw [hbq] at C2
            have C1 := Lib.hid C1; have C2 := Lib.hid C2
            have CM1 := Lib.hid (fun W => CM.out a b W)
            cases hm : mayS (a : Int) (b : Int)
            · have HV := Lib.hid (HP.out.trans <| paV_no (by
                rintro ⟨d, t, h⟩
                obtain ⟨e1, e2⟩ := HK.out d t h
                rw [← ha, ← hbq, e1, e2, nt_val, nt_val, h.1] at hm
                cases hm))
              rw [hm] at CM1
              clear HP HK HL hm ha hbq n1 n2 CM
              go_wp2_with (first
                | (go_at_call 26; first | ((with_reducible refine (C1.out _).mono ?_); rintro e w1 ⟨rfl, rfl⟩) | ((with_reducible refine (C2.out _).mono ?_); rintro e w1 ⟨rfl, rfl⟩))
                | (go_at_call 21; ((with_reducible refine (CM1.out _).mono ?_); rintro e w2 ⟨rfl, k2⟩; replace r := (r.al _).then k2; replace hb := bThen (bAl (bAl hb _) _) k2; have q0 := r.c0; have q1 := r.c1; have f0 := r.f0; have f1 := r.f1)))
              exact ret_st_tmp rfl rfl rfl rfl (r.set _ _) ⟨by rw [HV.out]; rfl, bSet hb (Nat.le_refl _) _ _⟩
            · have HV := Lib.hid (HP.out.trans <| paV_yes (d := a) (s := b) ⟨hm, by rw [HL.out]; unfold txS; rw [← ha, ← hbq, isNum_nt n1, isNum_nt n2]⟩)
              rw [hm] at CM1
              clear HP HK HL hm ha hbq n1 n2 CM
              go_wp2_with (first
                | (go_at_call 26; first | ((with_reducible refine (C1.out _).mono ?_); rintro e w1 ⟨rfl, rfl⟩) | ((with_reducible refine (C2.out _).mono ?_); rintro e w1 ⟨rfl, rfl⟩))
                | (go_at_call 21; ((with_reducible refine (CM1.out _).mono ?_); rintro e w2 ⟨rfl, k2⟩; have p := (At2.new (w.alloc (.cells #[.int .i64 0, .int .i64 0] 23)) a b 23).then k2; simp at p; have p0 := p.c0; have p1 := p.c1; replace r := (r.al _).then k2; replace hb := bThen (bAl (bAl hb _) _) k2; have q0 := r.c0; have q1 := r.c1; have f0 := r.f0; have f1 := r.f1)))
              exact ret_st_tmp rfl rfl rfl rfl (r.set _ _) ⟨by rw [HV.out]; rfl, bSet hb (Nat.le_refl _) _ _⟩
          · have HV := Lib.hid (HP.out.trans <| paV_no (by
              rintro ⟨d, t, h⟩
              have bd := may_bd h.1
              exact n2 (by rw [(HK.out d t h).2]; exact nt_isNum (by omega))))
            rw [rnV_y n1] at C1
            rw [rnV_n n2] at C2
            generalize val x = a at *
            have C1 := Lib.hid C1; have C2 := Lib.hid C2
            clear HP HK HL n1 n2
            go_wp2_with (go_at_call 26; first | ((with_reducible refine (C1.out _).mono ?_); rintro e w1 ⟨rfl, rfl⟩) | ((with_reducible refine (C2.out _).mono ?_); rintro e w1 ⟨rfl, rfl⟩))
            exact ret_st_tmp rfl rfl rfl rfl (r.al _) ⟨by rw [HV.out]; rfl, bAl (bAl hb _) _⟩
        · have HV := Lib.hid (HP.out.trans <| paV_no (by
            rintro ⟨d, t, h⟩
            have bd := may_bd h.1
            exact n1 (by rw [(HK.out d t h).1]; exact nt_isNum (by omega))))
          rw [rnV_n n1] at C1
          obtain ⟨b, q, hbq⟩ : ∃ (b : Int) (q : Bool), rnV y = .tuple #[.int .i64 b, .bool q] := by
            by_cases n2 : isNum y
            · exact ⟨_, _, rnV_y n2⟩
            · exact ⟨_, _, rnV_n n2⟩
          rw [hbq] at C2
          have C1 := Lib.hid C1; have C2 := Lib.hid C2
          clear HP HK HL n1 hbq
          go_wp2_with (go_at_call 26; first | ((with_reducible refine (C1.out _).mono ?_); rintro e w1 ⟨rfl, rfl⟩) | ((with_reducible refine (C2.out _).mono ?_); rintro e w1 ⟨rfl, rfl⟩))
          exact ret_st_tmp rfl rfl rfl rfl (r.al _) ⟨by rw [HV.out]; rfl, bAl (bAl hb _) _⟩
      · have c46 : (((s[k]'hlt).toNat : Int) == 46) = false := by
          have e3 : (s[k]'hlt).toNat ≠ 46 := fun x => e46 (UInt8.toNat_inj.1 (x.trans rfl))
          simp; omega
        have HD' : Hid ((46 : UInt8) ∉ s.data.toList.take (k + 1)) := Lib.hid (by
          rw [List.take_succ_eq_append_getElem hlt', u_at _ _ hlt]
          intro hm
          rcases List.mem_append.1 hm with hm | hm
          · exact HD.out hm
          · exact e46 (List.mem_singleton.1 hm).symm)
        clear e46 hlt'
        go_wp2
        go_round
        case rel => exact ⟨k + 1, by go_num, by omega, HD'⟩
        case measure => simp [intOf]; omega
    · obtain rfl : k = s.size := by omega
      have HV := Lib.hid (HP.out.trans <| paV_no (by
        rintro ⟨d, t, h⟩
        have := HD.out
        rw [List.take_of_length_le (by rw [u_len]; omega)] at this
        exact this (tx_dot h)))
      go_wp2
      exact ret_st_tmp rfl rfl rfl rfl r ⟨by rw [HV.out]; rfl, bAl hb _⟩
end Go.Proofs.YthdphdmiafkkgaaDoor.UX
