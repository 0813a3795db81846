/-
  WALK: the document's Parse of a span.
-/
import Derived.Test.YtadbbpfnedbhcaaSParse
import Derived.Test.YtadbbpfnedbhcaaFRefParseP
namespace Go.Proofs.Ytadbbpfnedbhcaa
open Go.RowKit FixMath
set_option maxRecDepth 100000
set_option linter.unusedVariables false
set_option linter.unusedSimpArgs false

theorem at_opt {s : ByteArray} {k : Nat} (h : k < s.size) : s.data.toList[k]? = some (s[k]'h) := by
  rw [List.getElem?_eq_getElem (by rw [len_list]; exact h)]
  rfl
theorem extract_take (s : ByteArray) (k : Nat) : (s.extract 0 k).data.toList = s.data.toList.take k := by simp
theorem extract_drop (s : ByteArray) (k : Nat) : (s.extract k s.size).data.toList = s.data.toList.drop k := by
  rw [ByteArray.data_extract, Array.toList_extract]
  simp
  rw [List.take_of_length_le]
  simp

theorem refParse_yes (s : ByteArray) (d : Nat) (lo : Int) (h : isText s.data.toList d) (hl : readZ s.data.toList = lo) (hs : s.size ≤ maxLen) (w : World) :
    Calls Try.prog 36 #[.string s, .int .u8 d] w fun e w' => e = .returned (.tuple #[.int .i64 lo, .int .i64 0]) ∧ w = w' := by
  have := refParse_any s d w hs
  rw [parseV_t h, hl] at this
  exact this
theorem refParse_no (s : ByteArray) (d : Nat) (h : ¬ isText s.data.toList d) (hs : s.size ≤ maxLen) (w : World) :
    Calls Try.prog 36 #[.string s, .int .u8 d] w fun e w' => e = .returned (.tuple #[.int .i64 0, .int .i64 20]) ∧ w = w' := by
  have := refParse_any s d w hs
  rw [parseV_f h] at this
  exact this

set_option maxHeartbeats 2000000 in
theorem refSpParse_any (s : ByteArray) (d : Nat) (w : World) (hs : s.size ≤ 200) :
    Calls Try.prog 26 #[.string s, .int .u8 d] w fun e w' => e = .returned (spParse s.data.toList d) ∧ Below w.heap.size w w' := by
  have hb : Below w.heap.size w ((w.alloc (.cells #[.int .i64 0, .int .i64 0] 23)).alloc (.cells #[.int .i64 0, .int .i64 0] 23)) := bAl (bAl (Below.refl _ _) _) _
  have r := (At2.new w 0 0 23).al (.cells #[.int .i64 0, .int .i64 0] 23)
  go_enter Try.func26, Try.ntmps26
  go_wp2
  go_loop [7] (fun i => ∃ k : Nat, i = .int .i64 k ∧ k ≤ s.size ∧ Hid (∀ j, j < k → ¬ (s.data.toList[j]? = some 46 ∧ s.data.toList[j + 1]? = some 46))) (fun i => s.size - (intOf i).toNat)
  case atStart => exact ⟨0, rfl, Nat.zero_le _, Lib.hid (fun j hj => by omega)⟩
  case round =>
    obtain ⟨k, rfl, hk, HN⟩ := hrel
    by_cases hlt : k + 1 < s.size
    · have hlt0 : k < s.size := by omega
      have o1 := at_opt hlt0
      have o2 := at_opt hlt
      by_cases h1 : s[k]'hlt0 = 46
      · have b1 : ((s[k]'hlt0).toNat : Int) = 46 := by rw [h1]; rfl
        by_cases h2 : s[k + 1]'hlt = 46
        · have b2 : ((s[k + 1]'hlt).toNat : Int) = 46 := by rw [h2]; rfl
          have HC := cut_hit (l := s.data.toList) (i := k) ⟨by rw [o1, h1], by rw [o2, h2]⟩ HN.out
          have HW : Hid (spParse s.data.toList d = spParseV (s.extract 0 k).data.toList (s.extract (k + 2) s.size).data.toList d) := Lib.hid (by unfold spParse; rw [HC, extract_take, extract_drop])
          have zx : (s.extract 0 k).size ≤ maxLen := by simp; unfold maxLen; omega
          have zy : (s.extract (k + 2) s.size).size ≤ maxLen := by simp; unfold maxLen; omega
          clear HC HN o1 o2 h1 h2 hk
          obtain ⟨lo, hlo⟩ : ∃ lo, readZ (s.extract 0 k).data.toList = lo := ⟨_, rfl⟩
          obtain ⟨hi, hhi⟩ : ∃ hi, readZ (s.extract (k + 2) s.size).data.toList = hi := ⟨_, rfl⟩
          by_cases t1 : isText (s.extract 0 k).data.toList d
          · have CX := fun W => Lib.hid (refParse_yes _ d lo t1 hlo zx W)
            by_cases t2 : isText (s.extract (k + 2) s.size).data.toList d
            · have CY := fun W => Lib.hid (refParse_yes _ d hi t2 hhi zy W)
              by_cases l3 : hi < lo
              · have HV := Lib.hid (HW.out.trans (spParseV_1 t1 t2 (by rw [hlo, hhi]; exact l3)))
                clear HW t1 t2 hlo hhi zx zy
                go_wp2_with (go_at_call 36; first | ((with_reducible refine (CX _).out.mono ?_); rintro e w1 ⟨rfl, rfl⟩) | ((with_reducible refine (CY _).out.mono ?_); rintro e w1 ⟨rfl, rfl⟩))
                exact ret_sp_tmp rfl rfl rfl rfl r ⟨by rw [HV.out]; rfl, hb⟩
              · have HV := Lib.hid (HW.out.trans (spParseV_2 t1 t2 (by rw [hlo, hhi]; exact l3)))
                rw [hlo, hhi] at HV
                clear HW t1 t2 hlo hhi zx zy
                go_wp2_with (go_at_call 36; first | ((with_reducible refine (CX _).out.mono ?_); rintro e w1 ⟨rfl, rfl⟩) | ((with_reducible refine (CY _).out.mono ?_); rintro e w1 ⟨rfl, rfl⟩))
                exact ret_sp_tmp rfl rfl rfl rfl ((At2.new w lo hi 23).al _) ⟨by rw [HV.out]; rfl, bAl (bAl (Below.refl _ _) _) _⟩
            · have CY := fun W => Lib.hid (refParse_no _ d t2 zy W)
              have HV := Lib.hid (HW.out.trans (spParseV_3 (fun h => t2 h.2)))
              clear HW t1 t2 hlo hhi zx zy
              go_wp2_with (go_at_call 36; first | ((with_reducible refine (CX _).out.mono ?_); rintro e w1 ⟨rfl, rfl⟩) | ((with_reducible refine (CY _).out.mono ?_); rintro e w1 ⟨rfl, rfl⟩))
              exact ret_sp_tmp rfl rfl rfl rfl r ⟨by rw [HV.out]; rfl, hb⟩
          · have CX := fun W => Lib.hid (refParse_no _ d t1 zx W)
            have HV := Lib.hid (HW.out.trans (spParseV_3 (fun h => t1 h.1)))
            by_cases t2 : isText (s.extract (k + 2) s.size).data.toList d
            · have CY := fun W => Lib.hid (refParse_yes _ d hi t2 hhi zy W)
              clear HW t1 t2 hlo hhi zx zy
              go_wp2_with (go_at_call 36; first | ((with_reducible refine (CX _).out.mono ?_); rintro e w1 ⟨rfl, rfl⟩) | ((with_reducible refine (CY _).out.mono ?_); rintro e w1 ⟨rfl, rfl⟩))
              exact ret_sp_tmp rfl rfl rfl rfl r ⟨by rw [HV.out]; rfl, hb⟩
            · have CY := fun W => Lib.hid (refParse_no _ d t2 zy W)
              clear HW t1 t2 hlo hhi zx zy
              go_wp2_with (go_at_call 36; first | ((with_reducible refine (CX _).out.mono ?_); rintro e w1 ⟨rfl, rfl⟩) | ((with_reducible refine (CY _).out.mono ?_); rintro e w1 ⟨rfl, rfl⟩))
              exact ret_sp_tmp rfl rfl rfl rfl r ⟨by rw [HV.out]; rfl, hb⟩
        · have b2 : ¬ ((s[k + 1]'hlt).toNat : Int) = 46 := by
            intro e; have e2 : (s[k + 1]'hlt).toNat = 46 := by omega
            exact h2 (UInt8.toNat_inj.1 (e2.trans rfl))
          have HN' : Hid (∀ j, j < k + 1 → ¬ (s.data.toList[j]? = some 46 ∧ s.data.toList[j + 1]? = some 46)) := Lib.hid (fun j hj => by
            by_cases e : j = k
            · subst e; rw [o2]; intro q; exact h2 (by simpa using q.2)
            · exact HN.out j (by omega))
          clear HN o1 o2 h1 h2
          go_wp2
          go_round
          case rel => exact ⟨k + 1, by go_num, by omega, HN'⟩
          case measure => simp [intOf]; omega
      · have b1 : ¬ ((s[k]'hlt0).toNat : Int) = 46 := by
          intro e; have e2 : (s[k]'hlt0).toNat = 46 := by omega
          exact h1 (UInt8.toNat_inj.1 (e2.trans rfl))
        have HN' : Hid (∀ j, j < k + 1 → ¬ (s.data.toList[j]? = some 46 ∧ s.data.toList[j + 1]? = some 46)) := Lib.hid (fun j hj => by
          by_cases e : j = k
          · subst e; rw [o1]; intro q; exact h1 (by simpa using q.1)
          · exact HN.out j (by omega))
        clear HN o1 o2 h1
        go_wp2
        go_round
        case rel => exact ⟨k + 1, by go_num, by omega, HN'⟩
        case measure => simp [intOf]; omega
    · have HV : Hid (spParse s.data.toList d = .tuple #[sp 0 0, .int .i64 20]) := Lib.hid (by
        unfold spParse
        rw [cut_miss (fun j hj => HN.out j (by rw [len_list] at hj; omega))]
        exact spParseV_3 (fun h => not_text_nil d h.2))
      clear HN
      go_wp2
      exact ret_sp_tmp rfl rfl rfl rfl r ⟨by rw [HV.out]; rfl, hb⟩
end Go.Proofs.Ytadbbpfnedbhcaa
