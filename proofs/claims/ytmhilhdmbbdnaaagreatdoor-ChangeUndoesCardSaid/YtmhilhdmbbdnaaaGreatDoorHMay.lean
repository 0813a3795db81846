/-
  WALKS: isLetter, isLater, letter; May of the program and of the document's answer: both say 'mayB s' of any string s, and write nothing that was there.
-/
import Derived.Test.YtmhilhdmbbdnaaaGreatDoorChecked
import Derived.Test.YtmhilhdmbbdnaaaGreatDoorHMath
import Derived.WalkKit
import Derived.WalkSpells
import Derived.WalkLawsBesides
import Derived.Lib.OthersKept
import Derived.Lib.Hide
namespace Go.Proofs.YtmhilhdmbbdnaaaGreatDoor.HL
open Go.RowKit
set_option maxRecDepth 100000
set_option linter.unusedVariables false

theorem isLetter_any (r : Int) (w : World) : Calls Tryz.prog 80 #[.int .i32 r] w fun e w' => e = .returned (.bool (ltrI r)) ∧ w = w' := by
  by_cases h1 : 97 ≤ r
  · by_cases h2 : r ≤ 122
    · have H := ltrI_t.2 ⟨h1, h2⟩
      go_enter Tryz.func80, Tryz.ntmps80
      go_wp2
      go_ret
      first | exact ⟨rfl, rfl⟩ | exact ⟨by rw [H]; rfl, rfl⟩
    · have H : ltrI r = false := ltrI_f.2 (fun h => h2 h.2)
      go_enter Tryz.func80, Tryz.ntmps80
      go_wp2
      go_ret
      first | exact ⟨rfl, rfl⟩ | exact ⟨by rw [H]; rfl, rfl⟩
  · have H : ltrI r = false := ltrI_f.2 (fun h => h1 h.1)
    go_enter Tryz.func80, Tryz.ntmps80
    go_wp2
    go_ret
    first | exact ⟨rfl, rfl⟩ | exact ⟨by rw [H]; rfl, rfl⟩

theorem letter_any (r : Int) (w : World) : Calls Tryz.prog 101 #[.int .u8 r] w fun e w' => e = .returned (.bool (ltrI r)) ∧ w = w' := by
  by_cases h1 : 97 ≤ r
  · by_cases h2 : r ≤ 122
    · have H := ltrI_t.2 ⟨h1, h2⟩
      go_enter Tryz.func101, Tryz.ntmps101
      go_wp2
      go_ret
      first | exact ⟨rfl, rfl⟩ | exact ⟨by rw [H]; rfl, rfl⟩
    · have H : ltrI r = false := ltrI_f.2 (fun h => h2 h.2)
      go_enter Tryz.func101, Tryz.ntmps101
      go_wp2
      go_ret
      first | exact ⟨rfl, rfl⟩ | exact ⟨by rw [H]; rfl, rfl⟩
  · have H : ltrI r = false := ltrI_f.2 (fun h => h1 h.1)
    go_enter Tryz.func101, Tryz.ntmps101
    go_wp2
    go_ret
    first | exact ⟨rfl, rfl⟩ | exact ⟨by rw [H]; rfl, rfl⟩

set_option maxHeartbeats 400000 in
theorem isLater_any (r : Int) (w : World) : Calls Tryz.prog 81 #[.int .i32 r] w fun e w' => e = .returned (.bool (latI r)) ∧ w = w' := by
  by_cases h0 : ltrI r = true
  · have H : latI r = true := latI_t.2 (.inl (ltrI_t.1 h0))
    go_enter Tryz.func81, Tryz.ntmps81
    go_wp2_with (go_at_call 80; refine (isLetter_any _ _).mono ?_; rintro e w' ⟨rfl, rfl⟩)
    go_ret
    first | exact ⟨rfl, rfl⟩ | exact ⟨by rw [H]; rfl, rfl⟩
  · have h0 : ltrI r = false := by simpa using h0
    have n0 := ltrI_f.1 h0
    have HN := Hid (latI r = true)
    by_cases h1 : 48 ≤ r ∧ r ≤ 57
    · obtain ⟨h1, h2⟩ := h1
      have H : latI r = true := latI_t.2 (.inr (.inl ⟨h1, h2⟩))
      clear n0
      go_enter Tryz.func81, Tryz.ntmps81
      go_wp2_with (go_at_call 80; refine (isLetter_any _ _).mono ?_; rintro e w' ⟨rfl, rfl⟩)
      go_ret
      first | exact ⟨rfl, rfl⟩ | exact ⟨by rw [H]; rfl, rfl⟩
    · by_cases h3 : r = 46
      · subst h3
        clear n0 h1
        go_enter Tryz.func81, Tryz.ntmps81
        go_wp2_with (go_at_call 80; refine (isLetter_any _ _).mono ?_; rintro e w' ⟨rfl, rfl⟩)
        go_ret
        exact ⟨rfl, rfl⟩
      · by_cases h4 : r = 95
        · subst h4
          clear n0 h1
          go_enter Tryz.func81, Tryz.ntmps81
          go_wp2_with (go_at_call 80; refine (isLetter_any _ _).mono ?_; rintro e w' ⟨rfl, rfl⟩)
          go_ret
          exact ⟨rfl, rfl⟩
        · by_cases h5 : r = 45
          · subst h5
            clear n0 h1
            go_enter Tryz.func81, Tryz.ntmps81
            go_wp2_with (go_at_call 80; refine (isLetter_any _ _).mono ?_; rintro e w' ⟨rfl, rfl⟩)
            go_ret
            exact ⟨rfl, rfl⟩
          · have H : latI r = false := latI_f.2 (by omega)
            have b3 : (r == 46) = false := by simpa using h3
            have b4 : (r == 95) = false := by simpa using h4
            have b5 : (r == 45) = false := by simpa using h5
            have hd : 48 ≤ r → 57 < r := by omega
            clear n0 h3 h4 h5
            by_cases h6 : 48 ≤ r
            · have h7 := hd h6
              have h8 : decide (r ≤ 57) = false := by simp; omega
              clear h1 hd
              go_enter Tryz.func81, Tryz.ntmps81
              go_wp2_with (go_at_call 80; refine (isLetter_any _ _).mono ?_; rintro e w' ⟨rfl, rfl⟩)
              go_ret
              first | exact ⟨rfl, rfl⟩ | exact ⟨by rw [H]; rfl, rfl⟩
            · clear h1 hd
              go_enter Tryz.func81, Tryz.ntmps81
              go_wp2_with (go_at_call 80; refine (isLetter_any _ _).mono ?_; rintro e w' ⟨rfl, rfl⟩)
              go_ret
              first | exact ⟨rfl, rfl⟩ | exact ⟨by rw [H]; rfl, rfl⟩

/-- What the string's iterator hands over at place k: the sign that stands there, or a rune above all ASCII ones. -/
theorem next_at (s : ByteArray) (k : Nat) (h : k < s.size) (w : World) :
    ∃ c wd : Nat, (∀ ty, (Instr.next (.pointer (some ⟨w.heap.size, 0, none⟩)) true ty).run Tryz.prog (w.iter s k) = .ok (.tuple #[.bool true, .int .i64 k, .int .i32 c]) (w.iter s (k + wd))) ∧
      ((c = bt s k ∧ wd = 1) ∨ (128 ≤ c ∧ 128 ≤ bt s k)) := by
  by_cases ha : (s[k]'h).toNat < 128
  · refine ⟨bt s k, 1, fun ty => ?_, .inl ⟨rfl, rfl⟩⟩
    rw [← bt_get s k h]
    exact run_next_ascii w s k ty h ha
  · have hh := decode_high s k h (by omega)
    refine ⟨(Utf8.decode s k).1, (Utf8.decode s k).2, fun ty => run_next_any w s k ty h, .inr ⟨hh.1, by rw [← bt_get s k h]; omega⟩⟩

theorem empty_t {s : ByteArray} (h : s.size = 0) : s.toList = [] := by
  rw [ByteArray.toList_eq]
  exact List.eq_nil_of_length_eq_zero (by simpa using h)
theorem empty_f {s : ByteArray} (h : s.size ≠ 0) : s.toList.isEmpty = false := by
  rw [ByteArray.toList_eq, List.isEmpty_eq_false_iff]
  intro e
  have : s.data.toList.length = 0 := by rw [e]; rfl
  exact h (by simpa using this)

set_option maxHeartbeats 1000000 in
theorem may_any (s : ByteArray) (w : World) (hs : s.size ≤ maxLen) : Calls Tryz.prog 62 #[.string s] w fun e w' => e = .returned (.bool (mayB s)) ∧ Below w.heap.size w w' := by
  unfold maxLen at hs
  by_cases h0 : s.size = 0
  · have HN := Lib.hid (no_len (s := s) (by omega))
    have he := empty_t h0
    have he' : s.toList.isEmpty = true := by rw [he]; rfl
    clear h0
    go_enter Tryz.func62, Tryz.ntmps62
    go_wp2
    go_ret
    exact ⟨by rw [HN.out]; rfl, Below.refl _ _⟩
  · have he := empty_f h0
    by_cases h16 : 16 < s.size
    · have HN := Lib.hid (no_len (s := s) (by omega))
      go_enter Tryz.func62, Tryz.ntmps62
      go_wp2
      go_ret
      exact ⟨by rw [HN.out]; rfl, Below.refl _ _⟩
    · go_enter Tryz.func62, Tryz.ntmps62
      go_wp2
      go_loopw [3] (fun b w' => ∃ (k : Nat) (p : Nat), w' = w.iter s k ∧ b = .int .i32 p ∧ k ≤ s.size ∧ Hid (p = prev s k) ∧ MayTo s k) (fun _ w' => s.size - w'.iterPos w.heap.size)
      case atStart => exact ⟨0, 0, rfl, rfl, Nat.zero_le _, Lib.hid (by simp [prev]), MayTo.zero s⟩
      case round =>
        obtain ⟨k, p, rfl, rfl, hk, HP, HT⟩ := hrel
        by_cases hlt : k < s.size
        · obtain ⟨c, wd, hnx, hc⟩ := next_at s k hlt w
          have HC := Lib.hid hc
          clear hc
          -- the round's ways: which tests say what
          have key : (k = 0 ∧ ltrI c = false ∧ mayB s = false) ∨ (0 < k ∧ latI c = false ∧ mayB s = false) ∨
              (0 < k ∧ latI c = true ∧ c = 46 ∧ p = 46 ∧ mayB s = false) ∨
              ((k = 0 → ltrI c = true) ∧ latI c = true ∧ (c = 46 → p ≠ 46 ∧ 0 < k) ∧ wd = 1 ∧ c = bt s k ∧ MayTo s (k + 1)) := by
            have hp := HP.out
            rcases HC.out with ⟨hc, hw⟩ | ⟨hc, hb⟩
            · subst hc
              by_cases hk0 : k = 0
              · subst hk0
                by_cases hl : ltrI (bt s 0) = true
                · have hl2 : latI (bt s 0) = true := latI_t.2 (.inl (ltrI_t.1 hl))
                  have h46 : bt s 0 ≠ 46 := by have := ltrI_t.1 hl; omega
                  exact .inr (.inr (.inr ⟨fun _ => hl, hl2, fun h => absurd h h46, hw, rfl, HT.step (fun _ => hl) hl2 (fun h => h46 h.1)⟩))
                · have hl : ltrI (bt s 0) = false := by simpa using hl
                  exact .inl ⟨rfl, hl, no_ltr hl⟩
              · by_cases hl : latI (bt s k) = true
                · by_cases h46 : bt s k = 46 ∧ p = 46
                  · exact .inr (.inr (.inl ⟨by omega, hl, h46.1, h46.2, no_dots hlt h46.1 (by omega)⟩))
                  · exact .inr (.inr (.inr ⟨fun h => absurd h hk0, hl, fun h => ⟨fun h2 => h46 ⟨h, h2⟩, by omega⟩, hw, rfl, HT.step (fun h => absurd h hk0) hl (fun h => h46 ⟨h.1, by omega⟩)⟩))
                · have hl : latI (bt s k) = false := by simpa using hl
                  exact .inr (.inl ⟨by omega, hl, no_lat hlt hl⟩)
            · have hl : latI (bt s k) = false := latI_f.2 (by omega)
              by_cases hk0 : k = 0
              · exact .inl ⟨hk0, ltrI_f.2 (by omega), no_lat hlt hl⟩
              · exact .inr (.inl ⟨by omega, latI_f.2 (by omega), no_lat hlt hl⟩)
          clear HC
          rcases key with ⟨hk0, h1, h2⟩ | ⟨hk0, h1, h2⟩ | ⟨hk0, h1, h2, h3, h4⟩ | ⟨h1, h2, h3, h4, h5, h6⟩
          · subst hk0
            have HN := Lib.hid h2
            clear h2
            go_wp2_with (first | (go_at_call 80; refine (isLetter_any _ _).mono ?_; rintro e w' ⟨rfl, rfl⟩) | (go_at_call 81; refine (isLater_any _ _).mono ?_; rintro e w' ⟨rfl, rfl⟩))
            go_ret
            exact ⟨by rw [HN.out]; rfl, (Below.refl _ _).alloc (Nat.le_refl _) _⟩
          · have HN := Lib.hid h2
            have hkb : ((k : Int) == 0) = false := by simp; omega
            clear h2
            go_wp2_with (first | (go_at_call 80; refine (isLetter_any _ _).mono ?_; rintro e w' ⟨rfl, rfl⟩) | (go_at_call 81; refine (isLater_any _ _).mono ?_; rintro e w' ⟨rfl, rfl⟩))
            go_ret
            exact ⟨by rw [HN.out]; rfl, (Below.refl _ _).alloc (Nat.le_refl _) _⟩
          · subst h2 h3
            have HN := Lib.hid h4
            have hkb : ((k : Int) == 0) = false := by simp; omega
            clear h4
            go_wp2_with (first | (go_at_call 80; refine (isLetter_any _ _).mono ?_; rintro e w' ⟨rfl, rfl⟩) | (go_at_call 81; refine (isLater_any _ _).mono ?_; rintro e w' ⟨rfl, rfl⟩))
            go_ret
            exact ⟨by rw [HN.out]; rfl, (Below.refl _ _).alloc (Nat.le_refl _) _⟩
          · subst h4
            have HB := Lib.hid h5
            have HT6 := Lib.hid h6
            clear h5 h6 HT
            have hrel' : ∃ (k1 : Nat) (p1 : Nat), w.iter s (k + 1) = w.iter s k1 ∧ Value.int .i32 (c : Int) = .int .i32 p1 ∧ k1 ≤ s.size ∧ Hid (p1 = prev s k1) ∧ MayTo s k1 :=
              ⟨k + 1, c, rfl, rfl, by omega, Lib.hid (by rw [HB.out]; simp [prev]), HT6.out⟩
            have HR := Lib.hid hrel'
            clear hrel'
            by_cases hk0 : k = 0
            · subst hk0
              have hl := h1 rfl
              have hc46 : ((c : Int) == 46) = false := by
                have : c ≠ 46 := fun h => by have := (h3 h).2; omega
                simp; omega
              clear h1 h3
              go_wp2_with (first | (go_at_call 80; refine (isLetter_any _ _).mono ?_; rintro e w' ⟨rfl, rfl⟩) | (go_at_call 81; refine (isLater_any _ _).mono ?_; rintro e w' ⟨rfl, rfl⟩))
              go_roundw
              case rel => exact HR.out
              case measure => simp; omega
            · have hkb : ((k : Int) == 0) = false := by simp; omega
              by_cases hc : c = 46
              · subst hc
                have hp46 : ((p : Int) == 46) = false := by have := (h3 rfl).1; simp; omega
                clear h1 h3
                go_wp2_with (first | (go_at_call 80; refine (isLetter_any _ _).mono ?_; rintro e w' ⟨rfl, rfl⟩) | (go_at_call 81; refine (isLater_any _ _).mono ?_; rintro e w' ⟨rfl, rfl⟩))
                go_roundw
                case rel => exact HR.out
                case measure => simp; omega
              · have hc46 : ((c : Int) == 46) = false := by simp; omega
                clear h1 h3 hc
                go_wp2_with (first | (go_at_call 80; refine (isLetter_any _ _).mono ?_; rintro e w' ⟨rfl, rfl⟩) | (go_at_call 81; refine (isLater_any _ _).mono ?_; rintro e w' ⟨rfl, rfl⟩))
                go_roundw
                case rel => exact HR.out
                case measure => simp; omega
        · have hks : k = s.size := by omega
          subst hks
          have hnx : ∀ ty, (Instr.next (.pointer (some ⟨w.heap.size, 0, none⟩)) true ty).run Tryz.prog (w.iter s s.size) = _ := fun ty => run_next_end w s s.size ty hlt
          have HT' := Lib.hid HT
          clear HT
          by_cases hp : p = 46
          · subst hp
            have HN := Lib.hid (no_end (s := s) HP.out.symm)
            go_wp2
            go_ret
            exact ⟨by rw [HN.out]; rfl, (Below.refl _ _).alloc (Nat.le_refl _) _⟩
          · have HN := Lib.hid (mayB_t (HT'.out.done (by omega) (by omega) (by rw [← HP.out]; exact hp)))
            have hp' : ((p : Int) != 46) = true := by rw [bne_iff_ne]; omega
            go_wp2
            go_ret
            exact ⟨by rw [HN.out]; rfl, (Below.refl _ _).alloc (Nat.le_refl _) _⟩
end Go.Proofs.YtmhilhdmbbdnaaaGreatDoor.HL
