/-
  WALK: the document's May: it says 'mayB s' of any string s, and writes nothing.
-/
import Derived.Test.YtmhilhdmbbdnaaaGreatDoorHMay
import Derived.Deep.QuietTactic
import Derived.BigQuiet
namespace Go.Proofs.YtmhilhdmbbdnaaaGreatDoor.HL
open Go.RowKit
set_option maxRecDepth 100000
set_option linter.unusedVariables false

set_option maxHeartbeats 1000000 in
theorem refMay_any (s : ByteArray) (w : World) (hs : s.size ≤ maxLen) : Calls Tryz.prog 92 #[.string s] w fun e w' => e = .returned (.bool (mayB s)) ∧ w = w' := by
  unfold maxLen at hs
  by_cases h0 : s.size = 0
  · have HN := Lib.hid (no_len (s := s) (by omega))
    have h1 : decide ((s.size : Int) < 1) = true := by simp; omega
    have h0' : s.size < 1 := by omega
    clear h0
    go_enter Tryz.func92, Tryz.ntmps92
    go_wp2
    go_ret
    exact ⟨by rw [HN.out]; rfl, rfl⟩
  · by_cases h16 : 16 < s.size
    · have HN := Lib.hid (no_len (s := s) (by omega))
      have h0' : 1 ≤ s.size := by omega
      clear h0
      go_enter Tryz.func92, Tryz.ntmps92
      go_wp2
      go_ret
      exact ⟨by rw [HN.out]; rfl, rfl⟩
    · have h0' : 0 < s.size := by omega
      have h1' : 1 ≤ s.size := by omega
      have h16' : s.size ≤ 16 := by omega
      clear h0 h16
      have g0 := bt_get s 0 h0'
      by_cases hl : ltrI (bt s 0) = true
      · have hl0 : ltrI ((s[0]'h0').toNat : Int) = true := by rw [g0]; exact hl
        have HL := Lib.hid hl
        clear g0 hl
        go_enter Tryz.func92, Tryz.ntmps92
        go_wp2_with (go_at_call 101; refine (letter_any _ _).mono ?_; rintro e w' ⟨rfl, rfl⟩)
        go_loop [3] (fun i => ∃ k : Nat, i = .int .i64 k ∧ 1 ≤ k ∧ k ≤ s.size ∧ RefTo s k) (fun i => s.size - (intOf i).toNat)
        case atStart => exact ⟨1, rfl, Nat.le_refl _, h1', RefTo.one HL.out⟩
        case round =>
          obtain ⟨k, rfl, hk1, hk, HT⟩ := hrel
          clear HL hl0
          have HS := Lib.hid HT
          clear HT
          by_cases hlt : k < s.size
          · have HG := Lib.hid (bt_get s k hlt)
            have hu := (s[k]'hlt).toNat_lt
            by_cases h46 : bt s k = 46
            · have e46 : (((s[k]'hlt).toNat : Int) == 46) = true := by rw [HG.out, h46]; rfl
              have n46 : (((s[k]'hlt).toNat : Int) != 46) = false := by rw [HG.out, h46]; rfl
              have d2 : (s[k]'hlt).toNat < 48 := by rw [HG.out]; omega
              have hl : ltrI ((s[k]'hlt).toNat : Int) = false := by rw [HG.out]; exact ltrI_f.2 (by omega)
              have H46 := Lib.hid h46
              clear h46
              by_cases hend : k + 1 = s.size
              · have hb : ((k : Int) == (s.size : Int) - 1) = true := by simp; omega
                have HN := Lib.hid (no_end' (s := s) (by rw [← hend]; exact H46.out))
                clear hend
                go_wp2_with (go_at_call 101; refine (letter_any _ _).mono ?_; rintro e w' ⟨rfl, rfl⟩)
                go_ret
                exact ⟨by rw [HN.out]; rfl, rfl⟩
              · have hb : ((k : Int) == (s.size : Int) - 1) = false := by simp; omega
                have hlt1 : k + 1 < s.size := by omega
                have hg1 := bt_get s (k + 1) hlt1
                by_cases h2 : bt s (k + 1) = 46
                · have e2 : (((s[k + 1]'hlt1).toNat : Int) == 46) = true := by rw [hg1, h2]; rfl
                  have HN := Lib.hid (no_two hlt1 H46.out h2)
                  clear hend hg1 h2
                  go_wp2_with (go_at_call 101; refine (letter_any _ _).mono ?_; rintro e w' ⟨rfl, rfl⟩)
                  go_ret
                  exact ⟨by rw [HN.out]; rfl, rfl⟩
                · have e2 : (((s[k + 1]'hlt1).toNat : Int) == 46) = false := by rw [hg1]; simp; omega
                  have HR := Lib.hid (HS.out.step (latI_t.2 (by have := H46.out; omega)) (fun _ => ⟨hlt1, h2⟩))
                  clear hend hg1 h2
                  go_wp2_with (go_at_call 101; refine (letter_any _ _).mono ?_; rintro e w' ⟨rfl, rfl⟩)
                  go_round
                  case rel => exact ⟨k + 1, by go_num, by omega, by omega, HR.out⟩
                  case measure => simp [intOf]; omega
            · have e46 : (((s[k]'hlt).toNat : Int) == 46) = false := by rw [HG.out]; simp; omega
              have n46 : (((s[k]'hlt).toNat : Int) != 46) = true := by rw [HG.out, bne_iff_ne]; omega
              by_cases hl : ltrI (bt s k) = true
              · have hl' : ltrI ((s[k]'hlt).toNat : Int) = true := by rw [HG.out]; exact hl
                have HR := Lib.hid (HS.out.step (latI_t.2 (.inl (ltrI_t.1 hl))) (fun h => absurd h h46))
                have d3 : 57 < (s[k]'hlt).toNat := by have := ltrI_t.1 hl; rw [HG.out]; omega
                clear h46 hl
                go_wp2_with (go_at_call 101; refine (letter_any _ _).mono ?_; rintro e w' ⟨rfl, rfl⟩)
                go_round
                case rel => exact ⟨k + 1, by go_num, by omega, by omega, HR.out⟩
                case measure => simp [intOf]; omega
              · have hl : ltrI (bt s k) = false := by simpa using hl
                have hl' : ltrI ((s[k]'hlt).toNat : Int) = false := by rw [HG.out]; exact hl
                by_cases hd : 48 ≤ bt s k ∧ bt s k ≤ 57
                · have HR := Lib.hid (HS.out.step (latI_t.2 (by omega)) (fun h => absurd h h46))
                  have d1 : 48 ≤ (s[k]'hlt).toNat := by rw [HG.out]; omega
                  have d2 : (s[k]'hlt).toNat ≤ 57 := by rw [HG.out]; omega
                  clear h46 hl hd
                  go_wp2_with (go_at_call 101; refine (letter_any _ _).mono ?_; rintro e w' ⟨rfl, rfl⟩)
                  go_round
                  case rel => exact ⟨k + 1, by go_num, by omega, by omega, HR.out⟩
                  case measure => simp [intOf]; omega
                · by_cases ha : latI (bt s k) = true
                  · have HR := Lib.hid (HS.out.step ha (fun h => absurd h h46))
                    by_cases h95 : bt s k = 95
                    · have d1 : 57 < (s[k]'hlt).toNat := by rw [HG.out]; omega
                      have n95 : (((s[k]'hlt).toNat : Int) != 95) = false := by rw [HG.out, h95]; rfl
                      clear h46 hl hd ha h95
                      go_wp2_with (go_at_call 101; refine (letter_any _ _).mono ?_; rintro e w' ⟨rfl, rfl⟩)
                      go_round
                      case rel => exact ⟨k + 1, by go_num, by omega, by omega, HR.out⟩
                      case measure => simp [intOf]; omega
                    · have h45 : bt s k = 45 := by have := latI_t.1 ha; have := ltrI_f.1 hl; omega
                      have d1 : (s[k]'hlt).toNat < 48 := by rw [HG.out]; omega
                      have n95 : (((s[k]'hlt).toNat : Int) != 95) = true := by rw [HG.out, bne_iff_ne]; omega
                      have n45 : (((s[k]'hlt).toNat : Int) != 45) = false := by rw [HG.out, h45]; rfl
                      clear h46 hl hd ha h95 h45
                      go_wp2_with (go_at_call 101; refine (letter_any _ _).mono ?_; rintro e w' ⟨rfl, rfl⟩)
                      go_round
                      case rel => exact ⟨k + 1, by go_num, by omega, by omega, HR.out⟩
                      case measure => simp [intOf]; omega
                  · have ha : latI (bt s k) = false := by simpa using ha
                    have HN := Lib.hid (no_lat hlt ha)
                    have nn := latI_f.1 ha
                    have n95 : (((s[k]'hlt).toNat : Int) != 95) = true := by rw [HG.out, bne_iff_ne]; omega
                    have n45 : (((s[k]'hlt).toNat : Int) != 45) = true := by rw [HG.out, bne_iff_ne]; omega
                    by_cases hdd : 48 ≤ bt s k
                    · have d1 : 57 < (s[k]'hlt).toNat := by rw [HG.out]; omega
                      have d8 : decide (((s[k]'hlt).toNat : Int) ≤ 57) = false := by simp; omega
                      clear h46 hl hd ha nn hdd
                      go_wp2_with (go_at_call 101; refine (letter_any _ _).mono ?_; rintro e w' ⟨rfl, rfl⟩)
                      go_ret
                      exact ⟨by rw [HN.out]; rfl, rfl⟩
                    · have d1 : (s[k]'hlt).toNat < 48 := by rw [HG.out]; omega
                      clear h46 hl hd ha nn hdd
                      go_wp2_with (go_at_call 101; refine (letter_any _ _).mono ?_; rintro e w' ⟨rfl, rfl⟩)
                      go_ret
                      exact ⟨by rw [HN.out]; rfl, rfl⟩
          · have hks : k = s.size := by omega
            subst hks
            have HN := Lib.hid (mayB_t (HS.out.done h1' h16'))
            go_wp2
            go_ret
            exact ⟨by rw [HN.out]; rfl, rfl⟩
      · have hl : ltrI (bt s 0) = false := by simpa using hl
        have hl0 : ltrI ((s[0]'h0').toNat : Int) = false := by rw [g0]; exact hl
        have HN := Lib.hid (no_ltr hl)
        clear g0 hl
        go_enter Tryz.func92, Tryz.ntmps92
        go_wp2_with (go_at_call 101; refine (letter_any _ _).mono ?_; rintro e w' ⟨rfl, rfl⟩)
        go_ret
        exact ⟨by rw [HN.out]; rfl, rfl⟩
end Go.Proofs.YtmhilhdmbbdnaaaGreatDoor.HL
